/- The reference's read: what is thrown is caught. -/
import Derived.Test.YtclopkpfeofjmaaGreatDoorWiRBody
import Derived.Defers
import Derived.Recover
namespace Go.Proofs.YtclopkpfeofjmaaGreatDoor
open Go.RowKit

theorem catch_idle (E : Nat) (w : World) :
    CallsD Tryz.prog 83 #[.pointer (some ⟨E, 0, none⟩)] .returning w fun e u' w' => e = .returned (.tuple #[]) ∧ u' = .returning ∧ w' = w := by
  refine callsD_of_wpS Tryz.func83 rfl fun c₀ cs hu => ?_
  apply wpS_seq
  apply wpS_region
  simp [wpOpsS, go_sem, recoverD, hu, Tryz.ntmps83, Exit.thenS]
  refine wpS_of_wp ?_
  have et : (#[Value.pointer (some ⟨E, 0, none⟩)] ++ ((Array.replicate 16 undef).setIfInBounds 3 Value.nilIface).setIfInBounds 0 Value.nilIface : Array Value) = #[.pointer (some ⟨E, 0, none⟩), .nilIface, undef, undef, .nilIface, undef, undef, undef, undef, undef, undef, undef, undef, undef, undef, undef, undef] := by rfl
  rw [et]
  have hnil : ∀ w : World, (binOp BinOp.neq 20 .nilIface .nilIface).run Tryz.prog w = .ok (.bool false) w := fun _ => by kernel_rfl
  go_wp2
  exact ⟨rfl, .returning, by cases c₀; simp_all, .tuple #[], results_none rfl _ _ _, rfl, rfl, rfl⟩
set_option maxRecDepth 100000 in
theorem catch_taken (E : Nat) (e0 : Int) (e : Nat) (older : List PanicEntry) (w : World) (hc : w.cell? ⟨E, 0, none⟩ = some (.int .i64 e0)) (hz : w.frozen? ⟨E, 0, none⟩ = false) (hl : E < w.heap.size) :
    CallsD Tryz.prog 83 #[.pointer (some ⟨E, 0, none⟩)] (.panicking ({ v := .iface 107 (.agg #[.int .i64 (e : Int)]), recovered := false } :: older)) w fun r u' w' =>
      r = .returned (.tuple #[]) ∧ u' = .panicking ({ v := .iface 107 (.agg #[.int .i64 (e : Int)]), recovered := true } :: older) ∧ w' = (w.setCell ⟨E, 0, none⟩ (.int .i64 (e : Int))).alloc (.cells #[.int .i64 (e : Int)] 107) := by
  refine callsD_of_wpS Tryz.func83 rfl fun c₀ cs hu => ?_
  apply wpS_seq
  apply wpS_region
  simp [wpOpsS, go_sem, recoverD, hu, Tryz.ntmps83, Exit.thenS]
  refine wpS_of_wp ?_
  have et : (#[Value.pointer (some ⟨E, 0, none⟩)] ++ ((Array.replicate 16 undef).setIfInBounds 3 (Value.iface 107 (.agg #[.int .i64 (e : Int)]))).setIfInBounds 0 (Value.iface 107 (.agg #[.int .i64 (e : Int)])) : Array Value) = #[.pointer (some ⟨E, 0, none⟩), .iface 107 (.agg #[.int .i64 (e : Int)]), undef, undef, .iface 107 (.agg #[.int .i64 (e : Int)]), undef, undef, undef, undef, undef, undef, undef, undef, undef, undef, undef, undef] := by rfl
  rw [et]
  have hne : ∀ w : World, (binOp BinOp.neq 20 (.iface 107 (.agg #[.int .i64 (e : Int)])) .nilIface).run Tryz.prog w = .ok (.bool true) w := fun _ => by kernel_rfl
  have hta : ∀ w : World, (Instr.typeAssert (.iface 107 (.agg #[.int .i64 (e : Int)])) 20 107 true).run Tryz.prog w = .ok (.tuple #[.agg #[.int .i64 (e : Int)], .bool true]) w := fun _ => by kernel_rfl
  have hlt : ¬ E = w.heap.size := by omega
  have hlt' : ¬ w.heap.size = E := by omega
  go_wp2
  exact ⟨rfl, _, rfl, .tuple #[], results_none rfl _ _ _, rfl, rfl, rfl⟩
/-- What read answers: an error, or the state lies there. -/
def ReadP (v : Int) (c : Nat) (l : List UInt8) (w : World) (r : Ending) (w' : World) : Prop := Keep2 c c w w' ∧ ((∃ e : Nat, stR V8 v l = .inl e ∧ r = .returned (.int .i64 (e : Int))) ∨ (∃ s l' d1 d2 d3 p1 p2 p3, stR V8 v l = .inr (s, l') ∧ r = .returned (.int .i64 (if l' = [] then 0 else 4)) ∧
  ObjAt c #[.int .i64 s.rev, .slice d1 s.jobs.length p1, .slice d2 s.nodes.length p2, .slice d3 s.leases.length p3] 30 w' ∧
  w'.ownsRow w.heap.size 50 5 (.slice d1 s.jobs.length p1) s.jobs.length (cJobs s.jobs) ∧ w'.ownsRow w.heap.size 52 3 (.slice d2 s.nodes.length p2) s.nodes.length (cNodes s.nodes) ∧ w'.ownsRow w.heap.size 48 3 (.slice d3 s.leases.length p3) s.leases.length (cLeases s.leases)))
theorem k2_new {b c : Nat} {w W w' : World} (hB : Below w.heap.size w W) (hk : Keep2 b c W w') (hb : w.heap.size ≤ b) : Keep2 c c w w' :=
  ⟨hk.os.trans hB.os, hk.tape.trans hB.tape, hk.output.trans hB.output, Nat.le_trans hB.size hk.size, fun i hi hc _ => (hk.block i (Nat.lt_of_lt_of_le hi hB.size) (by omega) hc).trans (hB.block i hi)⟩
theorem k2_fresh {c d : Nat} {w w' : World} (hk : Keep2 c c w w') (hd : w.heap.size ≤ d) (j : Nat) (u : Value) : Keep2 c c w (w'.setCell ⟨d, j, none⟩ u) :=
  ⟨hk.os, hk.tape, hk.output, by simpa [World.setCell] using hk.size, fun i hi hc _ => by
    rw [Below.heap_setCell w' ⟨d, j, none⟩ u i (by show i ≠ d; omega)]
    exact hk.block i hi hc hc⟩
theorem k2_alloc {c : Nat} {w w' : World} (hk : Keep2 c c w w') (o : Obj) : Keep2 c c w (w'.alloc o) :=
  ⟨hk.os, hk.tape, hk.output, by rw [World.size_alloc]; have := hk.size; omega, fun i hi hc _ => by
    rw [(below_one w' o).block i (Nat.lt_of_lt_of_le hi hk.size)]
    exact hk.block i hi hc hc⟩
set_option maxRecDepth 100000 in
set_option maxHeartbeats 4000000 in
theorem read_is' {c V : Nat} {l : List UInt8} (v : Int) (hl : l.length ≤ 140737488355328) (w : World) (hV : ObjAt V #[.int .i64 v] 3 w) (hS : ObjAt c #[.int .i64 0, .slice none 0 0, .slice none 0 0, .slice none 0 0] 30 w) (n2 : V ≠ c) :
    Calls Tryz.prog 32 #[.string (ba l), .func (.func 33) #[] #[.pointer (some ⟨V, 0, none⟩), .pointer (some ⟨c, 0, none⟩)]] w (ReadP v c l w) := by
  have hmf : ∀ (fn : Fn) (first cap : Array Value) (w : World), (Instr.makeFunc fn first cap).run Tryz.prog w = .ok (.func fn first cap) w := fun _ _ _ _ => rfl
  obtain ⟨W, hW⟩ : ∃ W, (w.alloc (.cells #[.int .i64 0] 22)).alloc (.cells #[.string (ba l)] 110) = W := ⟨_, rfl⟩
  have bW : Below w.heap.size w W := by rw [← hW]; exact below_trans (below_one _ _) (below_one _ _) (by simp)
  have oE := objAt_next (objAt_new w #[.int .i64 0] 22) (below_one _ (.cells #[.string (ba l)] 110))
  have oB := objAt_new (w.alloc (.cells #[.int .i64 0] 22)) #[.string (ba l)] 110
  rw [hW] at oE oB
  rw [World.size_alloc] at oB
  have lV := objAt_lt hV
  have lS := objAt_lt hS
  have HB := Lib.hid (body_is (b := w.heap.size + 1) v hl W oB (objAt_next hV bW) (objAt_next hS bW) (by omega) n2 (by omega))
  have OE := Lib.hid oE
  have BW := Lib.hid bW
  clear oE oB hV hS bW
  go_enter_defers Tryz.func32, Tryz.ntmps32
  go_wp2_with fail
  refine HB.out.mono ?_
  rintro r w1 ⟨k1, ⟨e, he, rfl⟩ | ⟨s, l', d1, d2, d3, p1, p2, p3, hr, rfl, oS, o1, o2, o3, s1⟩⟩
  · have oE1 := k2_obj OE.out k1 (by omega) (by omega)
    have c0 := objAt_cell oE1 0 rfl
    have f0 := objAt_free oE1 0
    have z0 := objAt_lt oE1
    have HE := Lib.hid he
    have K := Lib.hid (k2_new BW.out k1 (by omega))
    unfold taken
    clear he k1 oE1
    have hcell : ((w1.setCell ⟨w.heap.size, 0, none⟩ (.int .i64 (e : Int))).alloc (.cells #[.int .i64 (e : Int)] 107)).cell? ⟨w.heap.size, 0, none⟩ = some (.int .i64 (e : Int)) := by go_simp
    have HC := Lib.hid hcell
    have KF := Lib.hid (k2_alloc (k2_fresh K.out (Nat.le_refl _) 0 (.int .i64 (e : Int))) (.cells #[.int .i64 (e : Int)] 107))
    clear hcell
    go_wp2
    refine leaves_cons (f := 83) (args := #[.pointer (some ⟨w.heap.size, 0, none⟩)]) (by simp) (by simp [go_sem]) ?_
    refine (catch_taken w.heap.size 0 e [] w1 c0 f0 z0).mono ?_
    rintro r u' w2 ⟨rfl, rfl, rfl⟩
    have hR : ReadP v c l w (.returned (.int .i64 (e : Int))) _ := ⟨KF.out, .inl ⟨e, HE.out, rfl⟩⟩
    have hC := HC.out
    simp only [settle]
    simp [Leaves, results, Tryz.results32, go_sem, hC]
    exact hR
  · have HE := Lib.hid hr
    have oE1 := k2_obj OE.out k1 (by omega) (by omega)
    have c0 := objAt_cell oE1 0 rfl
    have f0 := objAt_free oE1 0
    have z0 := objAt_lt oE1
    have x0 := objAt_cell s1 0 rfl
    have zb := objAt_lt s1
    have K := Lib.hid (k2_new BW.out k1 (by omega))
    have hsz := BW.out.size
    have OS := Lib.hid oS
    have hWs : w.heap.size + 2 ≤ W.heap.size := by rw [← hW, World.size_alloc, World.size_alloc]; omega
    clear hr k1 oE1 oS s1
    by_cases hz : l' = []
    · subst hz
      have eb : ba [] = ⟨#[]⟩ := rfl
      rw [eb] at x0
      clear eb
      have u1 := own_set o1 (b := w.heap.size) (by omega) 0 (.int .i64 0)
      have u2 := own_set o2 (b := w.heap.size) (by omega) 0 (.int .i64 0)
      have u3 := own_set o3 (b := w.heap.size) (by omega) 0 (.int .i64 0)
      have O1 := Lib.hid (ownsRow_low (B' := w.heap.size) u1 hsz)
      have O2 := Lib.hid (ownsRow_low (B' := w.heap.size) u2 hsz)
      have O3 := Lib.hid (ownsRow_low (B' := w.heap.size) u3 hsz)
      have OF := Lib.hid (objAt_other OS.out (c := w.heap.size) (by omega) 0 (.int .i64 0))
      have KF := Lib.hid (k2_fresh K.out (Nat.le_refl _) 0 (.int .i64 0))
      have hcell : (w1.setCell ⟨w.heap.size, 0, none⟩ (.int .i64 0)).cell? ⟨w.heap.size, 0, none⟩ = some (.int .i64 0) := by go_simp
      have HC := Lib.hid hcell
      clear hcell u1 u2 u3 o1 o2 o3
      go_wp2
      refine leaves_cons (f := 83) (args := #[.pointer (some ⟨w.heap.size, 0, none⟩)]) (by simp) (by simp [go_sem]) ?_
      refine (catch_idle w.heap.size _).mono ?_
      rintro r u' w2 ⟨rfl, rfl, rfl⟩
      have hR : ReadP v c l w (.returned (.int .i64 0)) _ := ⟨KF.out, .inr ⟨s, _, d1, d2, d3, p1, p2, p3, HE.out, by rw [if_pos rfl], OF.out, O1.out, O2.out, O3.out⟩⟩
      have hC := HC.out
      simp only [settle]
      simp [Leaves, results, Tryz.results32, go_sem, hC]
      exact hR
    · have hne : (ba l').size ≠ 0 := by rw [ba_size]; simpa using hz
      obtain ⟨m1, m2⟩ := not_empty hne
      have HZ := Lib.hid hz
      obtain ⟨L, hL⟩ : ∃ L, ba l' = L := ⟨_, rfl⟩
      rw [hL] at x0 m1 m2
      clear hne hz hL
      have u1 := own_set o1 (b := w.heap.size) (by omega) 0 (.int .i64 4)
      have u2 := own_set o2 (b := w.heap.size) (by omega) 0 (.int .i64 4)
      have u3 := own_set o3 (b := w.heap.size) (by omega) 0 (.int .i64 4)
      have O1 := Lib.hid (ownsRow_low (B' := w.heap.size) u1 hsz)
      have O2 := Lib.hid (ownsRow_low (B' := w.heap.size) u2 hsz)
      have O3 := Lib.hid (ownsRow_low (B' := w.heap.size) u3 hsz)
      have OF := Lib.hid (objAt_other OS.out (c := w.heap.size) (by omega) 0 (.int .i64 4))
      have KF := Lib.hid (k2_fresh K.out (Nat.le_refl _) 0 (.int .i64 4))
      have hcell : (w1.setCell ⟨w.heap.size, 0, none⟩ (.int .i64 4)).cell? ⟨w.heap.size, 0, none⟩ = some (.int .i64 4) := by go_simp
      have HC := Lib.hid hcell
      clear hcell u1 u2 u3 o1 o2 o3
      go_wp2
      refine leaves_cons (f := 83) (args := #[.pointer (some ⟨w.heap.size, 0, none⟩)]) (by simp) (by simp [go_sem]) ?_
      refine (catch_idle w.heap.size _).mono ?_
      rintro r u' w2 ⟨rfl, rfl, rfl⟩
      have hR : ReadP v c l w (.returned (.int .i64 4)) _ := ⟨KF.out, .inr ⟨s, _, d1, d2, d3, p1, p2, p3, HE.out, by rw [if_neg HZ.out], OF.out, O1.out, O2.out, O3.out⟩⟩
      have hC := HC.out
      simp only [settle]
      simp [Leaves, results, Tryz.results32, go_sem, hC]
      exact hR
end Go.Proofs.YtclopkpfeofjmaaGreatDoor
