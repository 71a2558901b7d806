/- The reference's read, over the JSON form's function literal: what is thrown is caught. -/
import Derived.Test.YthbgaphidojneaaGreatDoorJsRef4
import Derived.Defers
import Derived.Recover
namespace Go.Proofs.YthbgaphidojneaaGreatDoor
open Go.RowKit

theorem jcatch_idle (E : Nat) (w : World) :
    CallsD Tryz.prog 59 #[.pointer (some ⟨E, 0, none⟩)] .returning w fun e u' w' => e = .returned (.tuple #[]) ∧ u' = .returning ∧ w' = w := by
  refine callsD_of_wpS Tryz.func59 rfl fun c₀ cs hu => ?_
  apply wpS_seq
  apply wpS_region
  simp [wpOpsS, go_sem, recoverD, hu, Tryz.ntmps59, Exit.thenS]
  refine wpS_of_wp ?_
  have et : (#[Value.pointer (some ⟨E, 0, none⟩)] ++ ((Array.replicate 16 undef).setIfInBounds 3 Value.nilIface).setIfInBounds 0 Value.nilIface : Array Value) = #[.pointer (some ⟨E, 0, none⟩), .nilIface, undef, undef, .nilIface, undef, undef, undef, undef, undef, undef, undef, undef, undef, undef, undef, undef] := by rfl
  rw [et]
  have hnil : ∀ w : World, (binOp BinOp.neq 20 .nilIface .nilIface).run Tryz.prog w = .ok (.bool false) w := fun _ => by kernel_rfl
  go_wp2
  exact ⟨rfl, .returning, by cases c₀; simp_all, .tuple #[], results_none rfl _ _ _, rfl, rfl, rfl⟩
set_option maxRecDepth 100000 in
theorem jcatch_taken (E : Nat) (e0 : Int) (older : List PanicEntry) (w : World) (hc : w.cell? ⟨E, 0, none⟩ = some (.int .i64 e0)) (hz : w.frozen? ⟨E, 0, none⟩ = false) (hl : E < w.heap.size) :
    CallsD Tryz.prog 59 #[.pointer (some ⟨E, 0, none⟩)] (.panicking ({ v := .iface 95 (.agg #[.int .i64 4]), recovered := false } :: older)) w fun r u' w' =>
      r = .returned (.tuple #[]) ∧ u' = .panicking ({ v := .iface 95 (.agg #[.int .i64 4]), recovered := true } :: older) ∧ w' = (w.setCell ⟨E, 0, none⟩ (.int .i64 4)).alloc (.cells #[.int .i64 4] 95) := by
  refine callsD_of_wpS Tryz.func59 rfl fun c₀ cs hu => ?_
  apply wpS_seq
  apply wpS_region
  simp [wpOpsS, go_sem, recoverD, hu, Tryz.ntmps59, Exit.thenS]
  refine wpS_of_wp ?_
  have et : (#[Value.pointer (some ⟨E, 0, none⟩)] ++ ((Array.replicate 16 undef).setIfInBounds 3 (Value.iface 95 (.agg #[.int .i64 4]))).setIfInBounds 0 (Value.iface 95 (.agg #[.int .i64 4])) : Array Value) = #[.pointer (some ⟨E, 0, none⟩), .iface 95 (.agg #[.int .i64 4]), undef, undef, .iface 95 (.agg #[.int .i64 4]), undef, undef, undef, undef, undef, undef, undef, undef, undef, undef, undef, undef] := by rfl
  rw [et]
  have hne : ∀ w : World, (binOp BinOp.neq 20 (.iface 95 (.agg #[.int .i64 4])) .nilIface).run Tryz.prog w = .ok (.bool true) w := fun _ => by kernel_rfl
  have hta : ∀ w : World, (Instr.typeAssert (.iface 95 (.agg #[.int .i64 4])) 20 95 true).run Tryz.prog w = .ok (.tuple #[.agg #[.int .i64 4], .bool true]) w := fun _ => by kernel_rfl
  have hlt : ¬ E = w.heap.size := by omega
  have hlt' : ¬ w.heap.size = E := by omega
  go_wp2
  exact ⟨rfl, _, rfl, .tuple #[], results_none rfl _ _ _, rfl, rfl, rfl⟩
theorem jk_new {b c : Nat} {w W w' : World} (hB : Below w.heap.size w W) (hk : JKeep b c W w') (hb : w.heap.size ≤ b) : JKeep c c w w' :=
  ⟨hk.os.trans hB.os, hk.tape.trans hB.tape, hk.output.trans hB.output, Nat.le_trans hB.size hk.size, fun i hi hc _ => (hk.block i (Nat.lt_of_lt_of_le hi hB.size) (by omega) hc).trans (hB.block i hi)⟩
theorem jk_alloc {b c : Nat} {w w' : World} (hk : JKeep b c w w') (o : Obj) : JKeep b c w (w'.alloc o) := jk_trans hk (jk_grown (grown_of_below (below_one w' o) _))
theorem jk_obj {b c d : Nat} {vs : Array Value} {t : TypeId} {w w' : World} (h : ObjAt d vs t w) (hk : JKeep b c w w') (h1 : d ≠ b) (h2 : d ≠ c) : ObjAt d vs t w' := by
  have h0 := objAt_lt h
  unfold ObjAt at h ⊢
  rw [hk.block d h0 h1 h2]
  exact h
theorem jbo_set {B c E : Nat} {aj an al : Option Addr} {cj cn cl : Nat} {s : StD} {w : World} (h : JBoxO B c aj an al cj cn cl s w) (hE : E < B) (hne : c ≠ E) (j : Nat) (u : Value) : JBoxO B c aj an al cj cn cl s (w.setCell ⟨E, j, none⟩ u) := ⟨objAt_other h.1 hne j u, jown_set h.2 hE j u⟩
theorem jbo_next {B c : Nat} {aj an al : Option Addr} {cj cn cl : Nat} {s : StD} {w w' : World} (h : JBoxO B c aj an al cj cn cl s w) (hb : Below w.heap.size w w') : JBoxO B c aj an al cj cn cl s w' := ⟨objAt_next h.1 hb, jown_below h.2 hb⟩
theorem jbo_low {B B' c : Nat} {aj an al : Option Addr} {cj cn cl : Nat} {s : StD} {w : World} (h : JBoxO B c aj an al cj cn cl s w) (hb : B' ≤ B) : JBoxO B' c aj an al cj cn cl s w := ⟨h.1, jown_low h.2 hb⟩
/-- What read answers: an error, or the state lies there. -/
def ReadJ (c : Nat) (l : List UInt8) (w : World) (r : Ending) (w' : World) : Prop := JKeep c c w w' ∧ ((r = .returned (.int .i64 4) ∧ (∃ x, stP l = .inl x) ∧ SomeSt w.heap.size c w') ∨ (∃ s l' aj an al cj cn cl, stP l = .inr (s, l') ∧ r = .returned (.int .i64 (if l' = [] then 0 else 4)) ∧ JBoxO w.heap.size c aj an al cj cn cl s w'))
set_option maxRecDepth 100000 in
set_option maxHeartbeats 4000000 in
theorem jread_is {c : Nat} {l : List UInt8} (hl : l.length ≤ 60000) (w : World) (hS : ObjAt c #[.int .i64 0, .slice none 0 0, .slice none 0 0, .slice none 0 0] 26 w) :
    Calls Tryz.prog 18 #[.string (baL l), .func (.func 19) #[] #[.pointer (some ⟨c, 0, none⟩)]] w (ReadJ c l w) := by
  have hmf : ∀ (fn : Fn) (first cap : Array Value) (w : World), (Instr.makeFunc fn first cap).run Tryz.prog w = .ok (.func fn first cap) w := fun _ _ _ _ => rfl
  obtain ⟨W, hW⟩ : ∃ W, (w.alloc (.cells #[.int .i64 0] 27)).alloc (.cells #[.string (baL l)] 98) = W := ⟨_, rfl⟩
  have bW : Below w.heap.size w W := by rw [← hW]; exact below_trans (below_one _ _) (below_one _ _) (by simp)
  have oE := objAt_next (objAt_new w #[.int .i64 0] 27) (below_one _ (.cells #[.string (baL l)] 98))
  have oB := objAt_new (w.alloc (.cells #[.int .i64 0] 27)) #[.string (baL l)] 98
  rw [hW] at oE oB
  rw [World.size_alloc] at oB
  have lS := objAt_lt hS
  have HB := Lib.hid (jbody_is (b := w.heap.size + 1) hl W oB (objAt_next hS bW) (by omega))
  have OE := Lib.hid oE
  have BW := Lib.hid bW
  have hWs : w.heap.size + 2 ≤ W.heap.size := by rw [← hW, World.size_alloc, World.size_alloc]; omega
  clear oE oB hS bW
  go_enter_defers Tryz.func18, Tryz.ntmps18
  go_wp2_with fail
  refine HB.out.mono ?_
  rintro r w1 ⟨k1, ⟨rfl, he, hs⟩ | ⟨s, l', aj, an, al, cj, cn, cl, hr, rfl, hb, s1⟩⟩
  · have oE1 := jk_obj OE.out k1 (by omega) (by omega)
    have c0 := objAt_cell oE1 0 rfl
    have f0 := objAt_free oE1 0
    have z0 := objAt_lt oE1
    have HE := Lib.hid he
    have K := Lib.hid (jk_new BW.out k1 (by omega))
    have HS : Hid (SomeSt w.heap.size c ((w1.setCell ⟨w.heap.size, 0, none⟩ (.int .i64 4)).alloc (.cells #[.int .i64 4] 95))) := by
      obtain ⟨s, aj, an, al, cj, cn, cl, hb⟩ := hs
      exact ⟨s, aj, an, al, cj, cn, cl, jbo_low (jbo_next (jbo_set hb (by omega) (by omega) 0 (.int .i64 4)) (below_one _ _)) (by omega)⟩
    unfold thrown
    clear he k1 oE1 hs
    have hcell : ((w1.setCell ⟨w.heap.size, 0, none⟩ (.int .i64 4)).alloc (.cells #[.int .i64 4] 95)).cell? ⟨w.heap.size, 0, none⟩ = some (.int .i64 4) := by go_simp
    have HC := Lib.hid hcell
    have KF := Lib.hid (jk_alloc (jk_fresh K.out (Nat.le_refl _) 0 (.int .i64 4)) (.cells #[.int .i64 4] 95))
    clear hcell
    go_wp2
    refine leaves_cons (f := 59) (args := #[.pointer (some ⟨w.heap.size, 0, none⟩)]) (by simp) (by simp [go_sem]) ?_
    refine (jcatch_taken w.heap.size 0 [] w1 c0 f0 z0).mono ?_
    rintro r u' w2 ⟨rfl, rfl, rfl⟩
    have hR : ReadJ c l w (.returned (.int .i64 4)) _ := ⟨KF.out, .inl ⟨rfl, HE.out, HS.out⟩⟩
    have hC := HC.out
    simp only [settle]
    simp [Leaves, results, Tryz.results18, go_sem, hC]
    exact hR
  · have HE := Lib.hid hr
    have oE1 := jk_obj OE.out k1 (by omega) (by omega)
    have c0 := objAt_cell oE1 0 rfl
    have f0 := objAt_free oE1 0
    have z0 := objAt_lt oE1
    have x0 := objAt_cell s1 0 rfl
    have zb := objAt_lt s1
    have K := Lib.hid (jk_new BW.out k1 (by omega))
    have HBX := Lib.hid hb
    clear hr k1 oE1 s1 hb
    by_cases hz : l' = []
    · subst hz
      have eb : baL [] = ⟨#[]⟩ := rfl
      rw [eb] at x0
      clear eb
      have OF := Lib.hid (jbo_low (jbo_set HBX.out (E := w.heap.size) (by omega) (by omega) 0 (.int .i64 0)) (B' := w.heap.size) (by omega))
      have KF := Lib.hid (jk_fresh K.out (Nat.le_refl _) 0 (.int .i64 0))
      have hcell : (w1.setCell ⟨w.heap.size, 0, none⟩ (.int .i64 0)).cell? ⟨w.heap.size, 0, none⟩ = some (.int .i64 0) := by go_simp
      have HC := Lib.hid hcell
      clear hcell
      go_wp2
      refine leaves_cons (f := 59) (args := #[.pointer (some ⟨w.heap.size, 0, none⟩)]) (by simp) (by simp [go_sem]) ?_
      refine (jcatch_idle w.heap.size _).mono ?_
      rintro r u' w2 ⟨rfl, rfl, rfl⟩
      have hR : ReadJ c l w (.returned (.int .i64 0)) _ := ⟨KF.out, .inr ⟨s, _, aj, an, al, cj, cn, cl, HE.out, by rw [if_pos rfl], OF.out⟩⟩
      have hC := HC.out
      simp only [settle]
      simp [Leaves, results, Tryz.results18, go_sem, hC]
      exact hR
    · have hne : (baL l').size ≠ 0 := ba_ne hz
      obtain ⟨m1, m2⟩ := not_empty hne
      have HZ := Lib.hid hz
      obtain ⟨L, hL⟩ : ∃ L, baL l' = L := ⟨_, rfl⟩
      rw [hL] at x0 m1 m2
      clear hne hz hL
      have OF := Lib.hid (jbo_low (jbo_set HBX.out (E := w.heap.size) (by omega) (by omega) 0 (.int .i64 4)) (B' := w.heap.size) (by omega))
      have KF := Lib.hid (jk_fresh K.out (Nat.le_refl _) 0 (.int .i64 4))
      have hcell : (w1.setCell ⟨w.heap.size, 0, none⟩ (.int .i64 4)).cell? ⟨w.heap.size, 0, none⟩ = some (.int .i64 4) := by go_simp
      have HC := Lib.hid hcell
      clear hcell
      go_wp2
      refine leaves_cons (f := 59) (args := #[.pointer (some ⟨w.heap.size, 0, none⟩)]) (by simp) (by simp [go_sem]) ?_
      refine (jcatch_idle w.heap.size _).mono ?_
      rintro r u' w2 ⟨rfl, rfl, rfl⟩
      have hR : ReadJ c l w (.returned (.int .i64 4)) _ := ⟨KF.out, .inr ⟨s, _, aj, an, al, cj, cn, cl, HE.out, by rw [if_neg HZ.out], OF.out⟩⟩
      have hC := HC.out
      simp only [settle]
      simp [Leaves, results, Tryz.results18, go_sem, hC]
      exact hR
end Go.Proofs.YthbgaphidojneaaGreatDoor
