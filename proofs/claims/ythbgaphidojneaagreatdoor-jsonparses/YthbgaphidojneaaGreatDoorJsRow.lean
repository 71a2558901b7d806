/- Package json's reader: rows, and the whole of a state. Written by gen_jsr.py. -/
import Derived.Test.YthbgaphidojneaaGreatDoorJsRdr
import Derived.Test.YthbgaphidojneaaGreatDoorPkSt2
namespace Go.Proofs.YthbgaphidojneaaGreatDoor
open Go.RowKit
/-- A reader beside a block that the call has made. -/
def QSt (b : Nat) (l : List UInt8) (C : Nat) (vs : Array Value) (t : TypeId) (w0 w : World) : Prop := RdAt b l w ∧ ObjAt C vs t w ∧ w0.grownBy w (some b) ∧ b < w0.heap.size ∧ w0.heap.size ≤ C ∧ JEnv b w
theorem qst_new {b : Nat} {l : List UInt8} {t : TypeId} {w : World} (vs : Array Value) (h : RdAt b l w) (hE : JEnv b w) : QSt b l w.heap.size vs t w (w.alloc (.cells vs t)) :=
  ⟨objAt_next h (below_one _ _), objAt_new w vs t, grown_of_below (below_one _ _) _, rd_lt h, Nat.le_refl _, jenv_next hE (grown_of_below (below_one _ _) _) (Nat.le_of_lt (rd_lt h))⟩
theorem qst_call {b : Nat} {l l' : List UInt8} {C : Nat} {vs : Array Value} {t : TypeId} {w0 w w1 : World} (h : QSt b l C vs t w0 w) (hc : RdAt b l' w1) (hg : w.grownBy w1 (some b)) : QSt b l' C vs t w0 w1 := by
  obtain ⟨h1, h2, h3, h4, h5, h6⟩ := h
  refine ⟨hc, ?_, jgrown_trans h3 hg, h4, h5, jenv_next h6 hg (Nat.le_of_lt (rd_lt h1))⟩
  have hl := objAt_lt h2
  unfold ObjAt at h2 ⊢
  rw [hg.block C hl (by simp; omega)]
  exact h2
theorem qst_store {b : Nat} {l : List UInt8} {C : Nat} {vs : Array Value} {t : TypeId} {w0 w : World} (h : QSt b l C vs t w0 w) (j : Nat) (u : Value) : QSt b l C (vs.setIfInBounds j u) t w0 (w.setCell ⟨C, j, none⟩ u) := by
  obtain ⟨h1, h2, h3, h4, h5, h6⟩ := h
  refine ⟨objAt_other h1 (by omega) j u, objAt_set h2 j u, ⟨h3.os, h3.tape, h3.output, by simpa [World.setCell] using h3.size, fun i hi hr => ?_⟩, h4, h5, jenv_below h6 ((Below.refl _ _).setCell (p := ⟨C, j, none⟩) (by show b ≤ C; omega) u)⟩
  rw [Below.heap_setCell w ⟨C, j, none⟩ u i (by show i ≠ C; omega)]
  exact h3.block i hi hr
set_option maxRecDepth 100000 in
set_option maxHeartbeats 4000000 in
theorem rdJob_is {b : Nat} {l : List UInt8} (hl : l.length ≤ 60000) (w : World) (h : RdAt b l w) (hE : JEnv b w) :
    Calls Tryz.prog 54 #[.pointer (some ⟨b, 0, none⟩)] w (RdPost b (jobQ l).2 (.agg #[.string (jobQ l).1.name, .int .i64 (jobQ l).1.prio, .int .i64 (jobQ l).1.need, .int .i64 (jobQ l).1.tries, .string (jobQ l).1.tag]) w) := by
  have s0 := qst_new (t := 51) #[.string ⟨#[]⟩, .int .i64 0, .int .i64 0, .int .i64 0, .string ⟨#[]⟩] h hE
  obtain ⟨r0, e0⟩ : ∃ r, textP l = r := ⟨_, rfl⟩
  have k0 : r0.2.length ≤ 60000 := by have := text_short l; rw [e0] at this; omega
  obtain ⟨r1, e1⟩ : ∃ r, numP r0.2 = r := ⟨_, rfl⟩
  have k1 : r1.2.length ≤ 60000 := by have := num_short r0.2; rw [e1] at this; omega
  obtain ⟨r2, e2⟩ : ∃ r, numP r1.2 = r := ⟨_, rfl⟩
  have k2 : r2.2.length ≤ 60000 := by have := num_short r1.2; rw [e2] at this; omega
  obtain ⟨r3, e3⟩ : ∃ r, numP r2.2 = r := ⟨_, rfl⟩
  have k3 : r3.2.length ≤ 60000 := by have := num_short r2.2; rw [e3] at this; omega
  obtain ⟨r4, e4⟩ : ∃ r, textP r3.2 = r := ⟨_, rfl⟩
  have k4 : r4.2.length ≤ 60000 := by have := text_short r3.2; rw [e4] at this; omega
  have eQ : jobQ l = (⟨baL r0.1, r1.1, r2.1, r3.1, baL r4.1⟩, r4.2) := by simp only [jobQ, e0, e1, e2, e3, e4]
  rw [eQ]
  dsimp only
  have S0 := Lib.hid s0
  clear s0 h hE eQ
  have H0 : Hid (∀ w', QSt b l w.heap.size #[.string ⟨#[]⟩, .int .i64 0, .int .i64 0, .int .i64 0, .string ⟨#[]⟩] 51 w w' → Calls Tryz.prog 87 #[.pointer (some ⟨b, 0, none⟩)] w' (RdPost b r0.2 (.string (baL r0.1)) w')) := by
    intro w' s
    have := rdText_is hl w' s.1 s.2.2.2.2.2
    rwa [e0] at this
  have H1 : Hid (∀ w', QSt b r0.2 w.heap.size #[.string ⟨#[]⟩, .int .i64 0, .int .i64 0, .int .i64 0, .string ⟨#[]⟩] 51 w w' → Calls Tryz.prog 52 #[.pointer (some ⟨b, 0, none⟩)] w' (RdPost b r1.2 (.int .i64 r1.1) w')) := by
    intro w' s
    have := number_is' k0 w' s.1 s.2.2.2.2.2
    rwa [e1] at this
  have H2 : Hid (∀ w', QSt b r1.2 w.heap.size #[.string ⟨#[]⟩, .int .i64 0, .int .i64 0, .int .i64 0, .string ⟨#[]⟩] 51 w w' → Calls Tryz.prog 52 #[.pointer (some ⟨b, 0, none⟩)] w' (RdPost b r2.2 (.int .i64 r2.1) w')) := by
    intro w' s
    have := number_is' k1 w' s.1 s.2.2.2.2.2
    rwa [e2] at this
  have H3 : Hid (∀ w', QSt b r2.2 w.heap.size #[.string ⟨#[]⟩, .int .i64 0, .int .i64 0, .int .i64 0, .string ⟨#[]⟩] 51 w w' → Calls Tryz.prog 52 #[.pointer (some ⟨b, 0, none⟩)] w' (RdPost b r3.2 (.int .i64 r3.1) w')) := by
    intro w' s
    have := number_is' k2 w' s.1 s.2.2.2.2.2
    rwa [e3] at this
  have H4 : Hid (∀ w', QSt b r3.2 w.heap.size #[.string ⟨#[]⟩, .int .i64 0, .int .i64 0, .int .i64 0, .string ⟨#[]⟩] 51 w w' → Calls Tryz.prog 87 #[.pointer (some ⟨b, 0, none⟩)] w' (RdPost b r4.2 (.string (baL r4.1)) w')) := by
    intro w' s
    have := rdText_is k3 w' s.1 s.2.2.2.2.2
    rwa [e4] at this
  clear e0 e1 e2 e3 e4 k0 k1 k2 k3 k4
  obtain ⟨v0, m0⟩ := r0
  dsimp only at H0 H1 ⊢
  obtain ⟨v1, m1⟩ := r1
  dsimp only at H1 H2 ⊢
  obtain ⟨v2, m2⟩ := r2
  dsimp only at H2 H3 ⊢
  obtain ⟨v3, m3⟩ := r3
  dsimp only at H3 H4 ⊢
  obtain ⟨v4, m4⟩ := r4
  dsimp only at H4 ⊢
  generalize baL v0 = u0 at H0 ⊢
  obtain ⟨u1, hu1⟩ : ∃ u, v1 = u := ⟨_, rfl⟩
  rw [hu1] at H1 ⊢
  clear hu1
  obtain ⟨u2, hu2⟩ : ∃ u, v2 = u := ⟨_, rfl⟩
  rw [hu2] at H2 ⊢
  clear hu2
  obtain ⟨u3, hu3⟩ : ∃ u, v3 = u := ⟨_, rfl⟩
  rw [hu3] at H3 ⊢
  clear hu3
  generalize baL v4 = u4 at H4 ⊢
  have C0 := Lib.hid (H0.out _ S0.out)
  clear hl H0
  go_enter Tryz.func54, Tryz.ntmps54
  go_wp2_with fail
  refine C0.out.mono ?_
  rintro e w1 ⟨rfl, g0, o0⟩
  have S1 := Lib.hid (qst_call S0.out o0 g0)
  have C1 := Lib.hid (H1.out _ S1.out)
  clear g0 o0 S0 H1 C0
  go_wp2_with fail
  refine C1.out.mono ?_
  rintro e w2 ⟨rfl, g1, o1⟩
  have S2 := Lib.hid (qst_call S1.out o1 g1)
  have C2 := Lib.hid (H2.out _ S2.out)
  clear g1 o1 S1 H2 C1
  go_wp2_with fail
  refine C2.out.mono ?_
  rintro e w3 ⟨rfl, g2, o2⟩
  have S3 := Lib.hid (qst_call S2.out o2 g2)
  have C3 := Lib.hid (H3.out _ S3.out)
  clear g2 o2 S2 H3 C2
  go_wp2_with fail
  refine C3.out.mono ?_
  rintro e w4 ⟨rfl, g3, o3⟩
  have S4 := Lib.hid (qst_call S3.out o3 g3)
  have C4 := Lib.hid (H4.out _ S4.out)
  clear g3 o3 S3 H4 C3
  go_wp2_with fail
  refine C4.out.mono ?_
  rintro e w5 ⟨rfl, g4, o4⟩
  have S5 := Lib.hid (qst_call S4.out o4 g4)
  clear g4 o4 S4 C4
  have p0 := objAt_cell S5.out.2.1 0 rfl
  have y0 := objAt_free S5.out.2.1 0
  have p1 := objAt_cell S5.out.2.1 1 rfl
  have y1 := objAt_free S5.out.2.1 1
  have p2 := objAt_cell S5.out.2.1 2 rfl
  have y2 := objAt_free S5.out.2.1 2
  have p3 := objAt_cell S5.out.2.1 3 rfl
  have y3 := objAt_free S5.out.2.1 3
  have p4 := objAt_cell S5.out.2.1 4 rfl
  have y4 := objAt_free S5.out.2.1 4
  have zz := objAt_lt S5.out.2.1
  have q0 : QSt b m4 w.heap.size #[.string u0, .int .i64 0, .int .i64 0, .int .i64 0, .string ⟨#[]⟩] 51 w _ := qst_store S5.out 0 (.string u0)
  have q1 : QSt b m4 w.heap.size #[.string u0, .int .i64 u1, .int .i64 0, .int .i64 0, .string ⟨#[]⟩] 51 w _ := qst_store q0 1 (.int .i64 u1)
  have q2 : QSt b m4 w.heap.size #[.string u0, .int .i64 u1, .int .i64 u2, .int .i64 0, .string ⟨#[]⟩] 51 w _ := qst_store q1 2 (.int .i64 u2)
  have q3 : QSt b m4 w.heap.size #[.string u0, .int .i64 u1, .int .i64 u2, .int .i64 u3, .string ⟨#[]⟩] 51 w _ := qst_store q2 3 (.int .i64 u3)
  have q4 : QSt b m4 w.heap.size #[.string u0, .int .i64 u1, .int .i64 u2, .int .i64 u3, .string u4] 51 w _ := qst_store q3 4 (.string u4)
  have QF := Lib.hid q4
  clear q4 q3 q2 q1 q0
  go_wp2
  have i0 := objAt_cell QF.out.2.1 0 rfl
  have i1 := objAt_cell QF.out.2.1 1 rfl
  have i2 := objAt_cell QF.out.2.1 2 rfl
  have i3 := objAt_cell QF.out.2.1 3 rfl
  have i4 := objAt_cell QF.out.2.1 4 rfl
  exact bodyPost_ret (v := .agg #[.string u0, .int .i64 u1, .int .i64 u2, .int .i64 u3, .string u4]) (by simp [results, Tryz.results54, go_sem, i0, i1, i2, i3, i4]) rfl ⟨rfl, QF.out.2.2.1, QF.out.1⟩
set_option maxRecDepth 100000 in
set_option maxHeartbeats 4000000 in
theorem rdNode_is {b : Nat} {l : List UInt8} (hl : l.length ≤ 60000) (w : World) (h : RdAt b l w) (hE : JEnv b w) :
    Calls Tryz.prog 56 #[.pointer (some ⟨b, 0, none⟩)] w (RdPost b (nodeQ l).2 (.agg #[.string (nodeQ l).1.name, .int .i64 (nodeQ l).1.room, .string (nodeQ l).1.zone]) w) := by
  have s0 := qst_new (t := 54) #[.string ⟨#[]⟩, .int .i64 0, .string ⟨#[]⟩] h hE
  obtain ⟨r0, e0⟩ : ∃ r, textP l = r := ⟨_, rfl⟩
  have k0 : r0.2.length ≤ 60000 := by have := text_short l; rw [e0] at this; omega
  obtain ⟨r1, e1⟩ : ∃ r, numP r0.2 = r := ⟨_, rfl⟩
  have k1 : r1.2.length ≤ 60000 := by have := num_short r0.2; rw [e1] at this; omega
  obtain ⟨r2, e2⟩ : ∃ r, textP r1.2 = r := ⟨_, rfl⟩
  have k2 : r2.2.length ≤ 60000 := by have := text_short r1.2; rw [e2] at this; omega
  have eQ : nodeQ l = (⟨baL r0.1, r1.1, baL r2.1⟩, r2.2) := by simp only [nodeQ, e0, e1, e2]
  rw [eQ]
  dsimp only
  have S0 := Lib.hid s0
  clear s0 h hE eQ
  have H0 : Hid (∀ w', QSt b l w.heap.size #[.string ⟨#[]⟩, .int .i64 0, .string ⟨#[]⟩] 54 w w' → Calls Tryz.prog 87 #[.pointer (some ⟨b, 0, none⟩)] w' (RdPost b r0.2 (.string (baL r0.1)) w')) := by
    intro w' s
    have := rdText_is hl w' s.1 s.2.2.2.2.2
    rwa [e0] at this
  have H1 : Hid (∀ w', QSt b r0.2 w.heap.size #[.string ⟨#[]⟩, .int .i64 0, .string ⟨#[]⟩] 54 w w' → Calls Tryz.prog 52 #[.pointer (some ⟨b, 0, none⟩)] w' (RdPost b r1.2 (.int .i64 r1.1) w')) := by
    intro w' s
    have := number_is' k0 w' s.1 s.2.2.2.2.2
    rwa [e1] at this
  have H2 : Hid (∀ w', QSt b r1.2 w.heap.size #[.string ⟨#[]⟩, .int .i64 0, .string ⟨#[]⟩] 54 w w' → Calls Tryz.prog 87 #[.pointer (some ⟨b, 0, none⟩)] w' (RdPost b r2.2 (.string (baL r2.1)) w')) := by
    intro w' s
    have := rdText_is k1 w' s.1 s.2.2.2.2.2
    rwa [e2] at this
  clear e0 e1 e2 k0 k1 k2
  obtain ⟨v0, m0⟩ := r0
  dsimp only at H0 H1 ⊢
  obtain ⟨v1, m1⟩ := r1
  dsimp only at H1 H2 ⊢
  obtain ⟨v2, m2⟩ := r2
  dsimp only at H2 ⊢
  generalize baL v0 = u0 at H0 ⊢
  obtain ⟨u1, hu1⟩ : ∃ u, v1 = u := ⟨_, rfl⟩
  rw [hu1] at H1 ⊢
  clear hu1
  generalize baL v2 = u2 at H2 ⊢
  have C0 := Lib.hid (H0.out _ S0.out)
  clear hl H0
  go_enter Tryz.func56, Tryz.ntmps56
  go_wp2_with fail
  refine C0.out.mono ?_
  rintro e w1 ⟨rfl, g0, o0⟩
  have S1 := Lib.hid (qst_call S0.out o0 g0)
  have C1 := Lib.hid (H1.out _ S1.out)
  clear g0 o0 S0 H1 C0
  go_wp2_with fail
  refine C1.out.mono ?_
  rintro e w2 ⟨rfl, g1, o1⟩
  have S2 := Lib.hid (qst_call S1.out o1 g1)
  have C2 := Lib.hid (H2.out _ S2.out)
  clear g1 o1 S1 H2 C1
  go_wp2_with fail
  refine C2.out.mono ?_
  rintro e w3 ⟨rfl, g2, o2⟩
  have S3 := Lib.hid (qst_call S2.out o2 g2)
  clear g2 o2 S2 C2
  have p0 := objAt_cell S3.out.2.1 0 rfl
  have y0 := objAt_free S3.out.2.1 0
  have p1 := objAt_cell S3.out.2.1 1 rfl
  have y1 := objAt_free S3.out.2.1 1
  have p2 := objAt_cell S3.out.2.1 2 rfl
  have y2 := objAt_free S3.out.2.1 2
  have zz := objAt_lt S3.out.2.1
  have q0 : QSt b m2 w.heap.size #[.string u0, .int .i64 0, .string ⟨#[]⟩] 54 w _ := qst_store S3.out 0 (.string u0)
  have q1 : QSt b m2 w.heap.size #[.string u0, .int .i64 u1, .string ⟨#[]⟩] 54 w _ := qst_store q0 1 (.int .i64 u1)
  have q2 : QSt b m2 w.heap.size #[.string u0, .int .i64 u1, .string u2] 54 w _ := qst_store q1 2 (.string u2)
  have QF := Lib.hid q2
  clear q2 q1 q0
  go_wp2
  have i0 := objAt_cell QF.out.2.1 0 rfl
  have i1 := objAt_cell QF.out.2.1 1 rfl
  have i2 := objAt_cell QF.out.2.1 2 rfl
  exact bodyPost_ret (v := .agg #[.string u0, .int .i64 u1, .string u2]) (by simp [results, Tryz.results56, go_sem, i0, i1, i2]) rfl ⟨rfl, QF.out.2.2.1, QF.out.1⟩
set_option maxRecDepth 100000 in
set_option maxHeartbeats 4000000 in
theorem rdLease_is {b : Nat} {l : List UInt8} (hl : l.length ≤ 60000) (w : World) (h : RdAt b l w) (hE : JEnv b w) :
    Calls Tryz.prog 58 #[.pointer (some ⟨b, 0, none⟩)] w (RdPost b (leaseQ l).2 (.agg #[.string (leaseQ l).1.job, .string (leaseQ l).1.node, .int .i64 (leaseQ l).1.til]) w) := by
  have s0 := qst_new (t := 56) #[.string ⟨#[]⟩, .string ⟨#[]⟩, .int .i64 0] h hE
  obtain ⟨r0, e0⟩ : ∃ r, textP l = r := ⟨_, rfl⟩
  have k0 : r0.2.length ≤ 60000 := by have := text_short l; rw [e0] at this; omega
  obtain ⟨r1, e1⟩ : ∃ r, textP r0.2 = r := ⟨_, rfl⟩
  have k1 : r1.2.length ≤ 60000 := by have := text_short r0.2; rw [e1] at this; omega
  obtain ⟨r2, e2⟩ : ∃ r, numP r1.2 = r := ⟨_, rfl⟩
  have k2 : r2.2.length ≤ 60000 := by have := num_short r1.2; rw [e2] at this; omega
  have eQ : leaseQ l = (⟨baL r0.1, baL r1.1, r2.1⟩, r2.2) := by simp only [leaseQ, e0, e1, e2]
  rw [eQ]
  dsimp only
  have S0 := Lib.hid s0
  clear s0 h hE eQ
  have H0 : Hid (∀ w', QSt b l w.heap.size #[.string ⟨#[]⟩, .string ⟨#[]⟩, .int .i64 0] 56 w w' → Calls Tryz.prog 87 #[.pointer (some ⟨b, 0, none⟩)] w' (RdPost b r0.2 (.string (baL r0.1)) w')) := by
    intro w' s
    have := rdText_is hl w' s.1 s.2.2.2.2.2
    rwa [e0] at this
  have H1 : Hid (∀ w', QSt b r0.2 w.heap.size #[.string ⟨#[]⟩, .string ⟨#[]⟩, .int .i64 0] 56 w w' → Calls Tryz.prog 87 #[.pointer (some ⟨b, 0, none⟩)] w' (RdPost b r1.2 (.string (baL r1.1)) w')) := by
    intro w' s
    have := rdText_is k0 w' s.1 s.2.2.2.2.2
    rwa [e1] at this
  have H2 : Hid (∀ w', QSt b r1.2 w.heap.size #[.string ⟨#[]⟩, .string ⟨#[]⟩, .int .i64 0] 56 w w' → Calls Tryz.prog 52 #[.pointer (some ⟨b, 0, none⟩)] w' (RdPost b r2.2 (.int .i64 r2.1) w')) := by
    intro w' s
    have := number_is' k1 w' s.1 s.2.2.2.2.2
    rwa [e2] at this
  clear e0 e1 e2 k0 k1 k2
  obtain ⟨v0, m0⟩ := r0
  dsimp only at H0 H1 ⊢
  obtain ⟨v1, m1⟩ := r1
  dsimp only at H1 H2 ⊢
  obtain ⟨v2, m2⟩ := r2
  dsimp only at H2 ⊢
  generalize baL v0 = u0 at H0 ⊢
  generalize baL v1 = u1 at H1 ⊢
  obtain ⟨u2, hu2⟩ : ∃ u, v2 = u := ⟨_, rfl⟩
  rw [hu2] at H2 ⊢
  clear hu2
  have C0 := Lib.hid (H0.out _ S0.out)
  clear hl H0
  go_enter Tryz.func58, Tryz.ntmps58
  go_wp2_with fail
  refine C0.out.mono ?_
  rintro e w1 ⟨rfl, g0, o0⟩
  have S1 := Lib.hid (qst_call S0.out o0 g0)
  have C1 := Lib.hid (H1.out _ S1.out)
  clear g0 o0 S0 H1 C0
  go_wp2_with fail
  refine C1.out.mono ?_
  rintro e w2 ⟨rfl, g1, o1⟩
  have S2 := Lib.hid (qst_call S1.out o1 g1)
  have C2 := Lib.hid (H2.out _ S2.out)
  clear g1 o1 S1 H2 C1
  go_wp2_with fail
  refine C2.out.mono ?_
  rintro e w3 ⟨rfl, g2, o2⟩
  have S3 := Lib.hid (qst_call S2.out o2 g2)
  clear g2 o2 S2 C2
  have p0 := objAt_cell S3.out.2.1 0 rfl
  have y0 := objAt_free S3.out.2.1 0
  have p1 := objAt_cell S3.out.2.1 1 rfl
  have y1 := objAt_free S3.out.2.1 1
  have p2 := objAt_cell S3.out.2.1 2 rfl
  have y2 := objAt_free S3.out.2.1 2
  have zz := objAt_lt S3.out.2.1
  have q0 : QSt b m2 w.heap.size #[.string u0, .string ⟨#[]⟩, .int .i64 0] 56 w _ := qst_store S3.out 0 (.string u0)
  have q1 : QSt b m2 w.heap.size #[.string u0, .string u1, .int .i64 0] 56 w _ := qst_store q0 1 (.string u1)
  have q2 : QSt b m2 w.heap.size #[.string u0, .string u1, .int .i64 u2] 56 w _ := qst_store q1 2 (.int .i64 u2)
  have QF := Lib.hid q2
  clear q2 q1 q0
  go_wp2
  have i0 := objAt_cell QF.out.2.1 0 rfl
  have i1 := objAt_cell QF.out.2.1 1 rfl
  have i2 := objAt_cell QF.out.2.1 2 rfl
  exact bodyPost_ret (v := .agg #[.string u0, .string u1, .int .i64 u2]) (by simp [results, Tryz.results58, go_sem, i0, i1, i2]) rfl ⟨rfl, QF.out.2.2.1, QF.out.1⟩
/-- What a table's reading leaves. -/
def RwsJob (b : Nat) (q : List JobD × List UInt8) (w : World) (e : Ending) (w' : World) : Prop := ∃ v, e = .returned v ∧ w'.ownsRow w.heap.size 51 5 v q.1.length (cJobs q.1) ∧ w.grownBy w' (some b) ∧ RdAt b q.2 w'
set_option maxRecDepth 100000 in
set_option maxHeartbeats 4000000 in
theorem rdJobs_is {b : Nat} {l : List UInt8} (hl : l.length ≤ 60000) (w : World) (h : RdAt b l w) (hE : JEnv b w) :
    Calls Tryz.prog 53 #[.pointer (some ⟨b, 0, none⟩), .func (.func 54) #[.pointer (some ⟨b, 0, none⟩)] #[]] w (RwsJob b (rowsQ jobQ l) w) := by
  have HF := Lib.hid (find_is hl w h hE)
  have hbw := rd_lt h
  have HE := Lib.hid hE
  have h1 := find_short l
  have h2 := skip_short 91 (findP l)
  unfold rowsQ
  obtain ⟨k, hk⟩ : ∃ k, skipP 91 (findP l) = k := ⟨_, rfl⟩
  rw [hk] at h2 ⊢
  have hkl : k.length ≤ 60000 := by omega
  have HSK : Hid (∀ w', RdAt b (findP l) w' → Calls Tryz.prog 85 #[.pointer (some ⟨b, 0, none⟩), .string ⟨#[91]⟩] w' (RdPost b k (.tuple #[]) w')) := by
    intro w' h'
    have := skip_is 91 w' h'
    rwa [hk] at this
  obtain ⟨R, hR⟩ : ∃ R, rwAt jobQ [] k = R := ⟨_, rfl⟩
  rw [hR]
  have HR := Lib.hid hR
  obtain ⟨i0, qi, qz0, qz1, qz2⟩ := info_parts' Tryz.info_job
  have Hi := Lib.hid qi
  have Hz0 := Lib.hid qz0
  have Hz1 := Lib.hid qz1
  have Hz2 := Lib.hid qz2
  clear hk h hE h1 h2 hl hR qi qz0 qz1 qz2
  go_enter Tryz.func53, Tryz.ntmps53
  go_wp2_with fail
  refine HF.out.mono ?_
  rintro e w1 ⟨rfl, g1, o1⟩
  have HS1 := Lib.hid (HSK.out w1 o1)
  clear HF o1 HSK
  go_wp2_with fail
  refine HS1.out.mono ?_
  rintro e w2 ⟨rfl, g2, o2⟩
  have G2 := Lib.hid (jgrown_trans g1 g2)
  have O2 := Lib.hid o2
  clear g1 g2 HS1 o2
  go_wp2
  go_loopw [5] (fun rv wr => ∃ (acc : List JobD) (r : List UInt8), wr.ownsRow w.heap.size 51 5 rv acc.length (cJobs acc) ∧ Hid (RdAt b r wr) ∧ Hid (w.grownBy wr (some b)) ∧ Hid (rwAt jobQ acc r = R) ∧ r.length ≤ 60000 ∧ acc.length + r.length ≤ 60000) (fun _ wr => strLen wr b)
  case atStart => exact ⟨[], k, World.ownsRow_nil _ _ _ _, O2, G2, HR, hkl, by simpa using hkl⟩
  case round =>
    obtain ⟨acc, r, hown, HO, HG, HC, hr, har⟩ := hrel
    have hms := strLen_of HO.out
    have c0 : wr.cell? ⟨b, 0, none⟩ = some (.string (baL r)) := objAt_cell HO.out 0 rfl
    have HP := Lib.hid (has_is r wr)
    by_cases h123 : r.headD 0 = 123
    · rw [show (r.headD 0 == 123) = true by rw [h123]; rfl] at HP
      have hshort := rw_short jobQ_short h123
      have hst := rwAt_step jobQ_short acc h123
      rw [HC.out] at hst
      have HJ := Lib.hid (rdJob_is hr wr HO.out (jenv_next HE.out HG.out (Nat.le_of_lt hbw)))
      have q1 := jobQ_short r
      obtain ⟨L, hL⟩ : ∃ L, baL r = L := ⟨_, rfl⟩
      rw [hL] at c0 HP
      obtain ⟨q, hq⟩ : ∃ q, jobQ r = q := ⟨_, rfl⟩
      rw [hq] at HJ hshort hst q1
      obtain ⟨u, r2⟩ := q
      dsimp only at HJ hshort hst q1
      have HST := Lib.hid hst
      have q2 := skip_short 125 r2
      have HG0 := HG.out.size
      clear h123 hst hL hq HC
      go_wp2_with fail
      refine HP.out.mono ?_
      rintro e w3 ⟨rfl, rfl⟩
      go_wp2_with fail
      refine HJ.out.mono ?_
      rintro e w4 ⟨rfl, g4, o4⟩
      have hown4 := hown.kept g4 (by
        cases hv : Value.ownBlock _ with
        | none => exact .inl rfl
        | some kk =>
          right
          have := (hown.lt kk hv).1
          simp; omega)
      have hs4 := g4.size
      have G4 := Lib.hid (jgrown_trans HG.out g4)
      have O4 := Lib.hid o4
      clear hown g4 o4 HJ HP HO HG c0
      go_wp2_with (at_builtin; refine wpList_append_own _ rfl _ _ 22 rfl w.heap.size 51 i0 _ 5 56 Tryz.underlying22 Hi.out Hz0.out Hz1.out Hz2.out rfl (by decide) _ _ _ rfl (hown4.alloc _) ⟨w4.heap.size, 0, none⟩ 1 1 (cJob u) rfl rfl ?c1 ?c2 ?c3 ?c4 ?c5 ?_)
      case c1 => exact job_new w4 u _
      case c2 => exact job_ones u
      case c3 => unfold maxLen; omega
      case c4 => omega
      case c5 => simp; omega
      · intro v5 w5 own5 hg5 _
        have own5' : w5.ownsRow w.heap.size 51 5 v5 (acc ++ [u]).length (cJobs (acc ++ [u])) := by rw [cJobs_append, cJobs_one, List.length_append]; simpa using own5
        have gA : w4.grownBy (w4.alloc (.cells #[.string u.name, .int .i64 u.prio, .int .i64 u.need, .int .i64 u.tries, .string u.tag] 51)) none := World.grownBy_alloc w4 _ none
        have o5 : RdAt b r2 w5 := by
          have oa := objAt_next O4.out (below_one w4 (.cells #[.string u.name, .int .i64 u.prio, .int .i64 u.need, .int .i64 u.tries, .string u.tag] 51))
          unfold RdAt ObjAt at oa ⊢
          rw [hg5.block b (by have := rd_lt O4.out; simp; omega) (by
            intro e
            have := (hown4.lt b e.symm).1
            omega)]
          exact oa
        have G5 : Hid (w.grownBy w5 (some b)) := by
          have ga := jgrown_trans G4.out (grown_of_below (below_one w4 (.cells #[.string u.name, .int .i64 u.prio, .int .i64 u.need, .int .i64 u.tries, .string u.tag] 51)) _)
          refine ⟨hg5.os.trans ga.os, hg5.tape.trans ga.tape, hg5.output.trans ga.output, Nat.le_trans ga.size hg5.size, fun i hi hne => ?_⟩
          rw [hg5.block i (Nat.lt_of_lt_of_le hi ga.size) (by
            intro e
            have := (hown4.lt i e.symm).1
            omega)]
          exact ga.block i hi hne
        have HS5 := Lib.hid (skip_is 125 w5 o5)
        clear own5 hg5 hown4 O4 G4 gA o5
        go_wp2_with fail
        refine HS5.out.mono ?_
        rintro e w6 ⟨rfl, g6, o6⟩
        have own6 := own5'.kept g6 (by
          cases hv : Value.ownBlock _ with
          | none => exact .inl rfl
          | some kk =>
            right
            have := (own5'.lt kk hv).1
            simp; omega)
        have G6 := Lib.hid (jgrown_trans G5.out g6)
        have HS6 := Lib.hid (skip_is 44 w6 o6)
        clear own5' g6 o6 HS5 G5
        go_wp2_with fail
        refine HS6.out.mono ?_
        rintro e w7 ⟨rfl, g7, o7⟩
        have own7 := own6.kept g7 (by
          cases hv : Value.ownBlock _ with
          | none => exact .inl rfl
          | some kk =>
            right
            have := (own6.lt kk hv).1
            simp; omega)
        have G7 := Lib.hid (jgrown_trans G6.out g7)
        have hm7 := strLen_of o7
        have O7 := Lib.hid o7
        clear own6 g7 o7 HS6 G6
        go_wp2
        go_roundw
        case rel => exact ⟨acc ++ [u], skipP 44 (skipP 125 r2), own7, O7, G7, HST.out.symm, by omega, by simp only [List.length_append, List.length_cons, List.length_nil]; omega⟩
        case measure => rw [hms, hm7]; exact hshort
    · rw [show (r.headD 0 == 123) = false by rw [beq_eq_false_iff_ne]; exact h123] at HP
      have hfin := HC.out
      rw [rwAt_end jobQ acc h123] at hfin
      subst hfin
      obtain ⟨L, hL⟩ : ∃ L, baL r = L := ⟨_, rfl⟩
      rw [hL] at c0 HP
      clear h123 hL
      go_wp2_with fail
      refine HP.out.mono ?_
      rintro e w3 ⟨rfl, rfl⟩
      go_wp2
      go_ret
      exact ⟨_, rfl, hown, HG.out, HO.out⟩
/-- What a table's reading leaves. -/
def RwsNode (b : Nat) (q : List NodeD × List UInt8) (w : World) (e : Ending) (w' : World) : Prop := ∃ v, e = .returned v ∧ w'.ownsRow w.heap.size 54 3 v q.1.length (cNodes q.1) ∧ w.grownBy w' (some b) ∧ RdAt b q.2 w'
set_option maxRecDepth 100000 in
set_option maxHeartbeats 4000000 in
theorem rdNodes_is {b : Nat} {l : List UInt8} (hl : l.length ≤ 60000) (w : World) (h : RdAt b l w) (hE : JEnv b w) :
    Calls Tryz.prog 55 #[.pointer (some ⟨b, 0, none⟩), .func (.func 56) #[.pointer (some ⟨b, 0, none⟩)] #[]] w (RwsNode b (rowsQ nodeQ l) w) := by
  have HF := Lib.hid (find_is hl w h hE)
  have hbw := rd_lt h
  have HE := Lib.hid hE
  have h1 := find_short l
  have h2 := skip_short 91 (findP l)
  unfold rowsQ
  obtain ⟨k, hk⟩ : ∃ k, skipP 91 (findP l) = k := ⟨_, rfl⟩
  rw [hk] at h2 ⊢
  have hkl : k.length ≤ 60000 := by omega
  have HSK : Hid (∀ w', RdAt b (findP l) w' → Calls Tryz.prog 85 #[.pointer (some ⟨b, 0, none⟩), .string ⟨#[91]⟩] w' (RdPost b k (.tuple #[]) w')) := by
    intro w' h'
    have := skip_is 91 w' h'
    rwa [hk] at this
  obtain ⟨R, hR⟩ : ∃ R, rwAt nodeQ [] k = R := ⟨_, rfl⟩
  rw [hR]
  have HR := Lib.hid hR
  obtain ⟨i0, qi, qz0, qz1, qz2⟩ := info_parts' Tryz.info_node
  have Hi := Lib.hid qi
  have Hz0 := Lib.hid qz0
  have Hz1 := Lib.hid qz1
  have Hz2 := Lib.hid qz2
  clear hk h hE h1 h2 hl hR qi qz0 qz1 qz2
  go_enter Tryz.func55, Tryz.ntmps55
  go_wp2_with fail
  refine HF.out.mono ?_
  rintro e w1 ⟨rfl, g1, o1⟩
  have HS1 := Lib.hid (HSK.out w1 o1)
  clear HF o1 HSK
  go_wp2_with fail
  refine HS1.out.mono ?_
  rintro e w2 ⟨rfl, g2, o2⟩
  have G2 := Lib.hid (jgrown_trans g1 g2)
  have O2 := Lib.hid o2
  clear g1 g2 HS1 o2
  go_wp2
  go_loopw [5] (fun rv wr => ∃ (acc : List NodeD) (r : List UInt8), wr.ownsRow w.heap.size 54 3 rv acc.length (cNodes acc) ∧ Hid (RdAt b r wr) ∧ Hid (w.grownBy wr (some b)) ∧ Hid (rwAt nodeQ acc r = R) ∧ r.length ≤ 60000 ∧ acc.length + r.length ≤ 60000) (fun _ wr => strLen wr b)
  case atStart => exact ⟨[], k, World.ownsRow_nil _ _ _ _, O2, G2, HR, hkl, by simpa using hkl⟩
  case round =>
    obtain ⟨acc, r, hown, HO, HG, HC, hr, har⟩ := hrel
    have hms := strLen_of HO.out
    have c0 : wr.cell? ⟨b, 0, none⟩ = some (.string (baL r)) := objAt_cell HO.out 0 rfl
    have HP := Lib.hid (has_is r wr)
    by_cases h123 : r.headD 0 = 123
    · rw [show (r.headD 0 == 123) = true by rw [h123]; rfl] at HP
      have hshort := rw_short nodeQ_short h123
      have hst := rwAt_step nodeQ_short acc h123
      rw [HC.out] at hst
      have HJ := Lib.hid (rdNode_is hr wr HO.out (jenv_next HE.out HG.out (Nat.le_of_lt hbw)))
      have q1 := nodeQ_short r
      obtain ⟨L, hL⟩ : ∃ L, baL r = L := ⟨_, rfl⟩
      rw [hL] at c0 HP
      obtain ⟨q, hq⟩ : ∃ q, nodeQ r = q := ⟨_, rfl⟩
      rw [hq] at HJ hshort hst q1
      obtain ⟨u, r2⟩ := q
      dsimp only at HJ hshort hst q1
      have HST := Lib.hid hst
      have q2 := skip_short 125 r2
      have HG0 := HG.out.size
      clear h123 hst hL hq HC
      go_wp2_with fail
      refine HP.out.mono ?_
      rintro e w3 ⟨rfl, rfl⟩
      go_wp2_with fail
      refine HJ.out.mono ?_
      rintro e w4 ⟨rfl, g4, o4⟩
      have hown4 := hown.kept g4 (by
        cases hv : Value.ownBlock _ with
        | none => exact .inl rfl
        | some kk =>
          right
          have := (hown.lt kk hv).1
          simp; omega)
      have hs4 := g4.size
      have G4 := Lib.hid (jgrown_trans HG.out g4)
      have O4 := Lib.hid o4
      clear hown g4 o4 HJ HP HO HG c0
      go_wp2_with (at_builtin; refine wpList_append_own _ rfl _ _ 23 rfl w.heap.size 54 i0 _ 3 40 Tryz.underlying23 Hi.out Hz0.out Hz1.out Hz2.out rfl (by decide) _ _ _ rfl (hown4.alloc _) ⟨w4.heap.size, 0, none⟩ 1 1 (cNode u) rfl rfl ?c1 ?c2 ?c3 ?c4 ?c5 ?_)
      case c1 => exact node_new w4 u _
      case c2 => exact node_ones u
      case c3 => unfold maxLen; omega
      case c4 => omega
      case c5 => simp; omega
      · intro v5 w5 own5 hg5 _
        have own5' : w5.ownsRow w.heap.size 54 3 v5 (acc ++ [u]).length (cNodes (acc ++ [u])) := by rw [cNodes_append, cNodes_one, List.length_append]; simpa using own5
        have gA : w4.grownBy (w4.alloc (.cells #[.string u.name, .int .i64 u.room, .string u.zone] 54)) none := World.grownBy_alloc w4 _ none
        have o5 : RdAt b r2 w5 := by
          have oa := objAt_next O4.out (below_one w4 (.cells #[.string u.name, .int .i64 u.room, .string u.zone] 54))
          unfold RdAt ObjAt at oa ⊢
          rw [hg5.block b (by have := rd_lt O4.out; simp; omega) (by
            intro e
            have := (hown4.lt b e.symm).1
            omega)]
          exact oa
        have G5 : Hid (w.grownBy w5 (some b)) := by
          have ga := jgrown_trans G4.out (grown_of_below (below_one w4 (.cells #[.string u.name, .int .i64 u.room, .string u.zone] 54)) _)
          refine ⟨hg5.os.trans ga.os, hg5.tape.trans ga.tape, hg5.output.trans ga.output, Nat.le_trans ga.size hg5.size, fun i hi hne => ?_⟩
          rw [hg5.block i (Nat.lt_of_lt_of_le hi ga.size) (by
            intro e
            have := (hown4.lt i e.symm).1
            omega)]
          exact ga.block i hi hne
        have HS5 := Lib.hid (skip_is 125 w5 o5)
        clear own5 hg5 hown4 O4 G4 gA o5
        go_wp2_with fail
        refine HS5.out.mono ?_
        rintro e w6 ⟨rfl, g6, o6⟩
        have own6 := own5'.kept g6 (by
          cases hv : Value.ownBlock _ with
          | none => exact .inl rfl
          | some kk =>
            right
            have := (own5'.lt kk hv).1
            simp; omega)
        have G6 := Lib.hid (jgrown_trans G5.out g6)
        have HS6 := Lib.hid (skip_is 44 w6 o6)
        clear own5' g6 o6 HS5 G5
        go_wp2_with fail
        refine HS6.out.mono ?_
        rintro e w7 ⟨rfl, g7, o7⟩
        have own7 := own6.kept g7 (by
          cases hv : Value.ownBlock _ with
          | none => exact .inl rfl
          | some kk =>
            right
            have := (own6.lt kk hv).1
            simp; omega)
        have G7 := Lib.hid (jgrown_trans G6.out g7)
        have hm7 := strLen_of o7
        have O7 := Lib.hid o7
        clear own6 g7 o7 HS6 G6
        go_wp2
        go_roundw
        case rel => exact ⟨acc ++ [u], skipP 44 (skipP 125 r2), own7, O7, G7, HST.out.symm, by omega, by simp only [List.length_append, List.length_cons, List.length_nil]; omega⟩
        case measure => rw [hms, hm7]; exact hshort
    · rw [show (r.headD 0 == 123) = false by rw [beq_eq_false_iff_ne]; exact h123] at HP
      have hfin := HC.out
      rw [rwAt_end nodeQ acc h123] at hfin
      subst hfin
      obtain ⟨L, hL⟩ : ∃ L, baL r = L := ⟨_, rfl⟩
      rw [hL] at c0 HP
      clear h123 hL
      go_wp2_with fail
      refine HP.out.mono ?_
      rintro e w3 ⟨rfl, rfl⟩
      go_wp2
      go_ret
      exact ⟨_, rfl, hown, HG.out, HO.out⟩
/-- What a table's reading leaves. -/
def RwsLease (b : Nat) (q : List LeaseD × List UInt8) (w : World) (e : Ending) (w' : World) : Prop := ∃ v, e = .returned v ∧ w'.ownsRow w.heap.size 56 3 v q.1.length (cLeases q.1) ∧ w.grownBy w' (some b) ∧ RdAt b q.2 w'
set_option maxRecDepth 100000 in
set_option maxHeartbeats 4000000 in
theorem rdLeases_is {b : Nat} {l : List UInt8} (hl : l.length ≤ 60000) (w : World) (h : RdAt b l w) (hE : JEnv b w) :
    Calls Tryz.prog 57 #[.pointer (some ⟨b, 0, none⟩), .func (.func 58) #[.pointer (some ⟨b, 0, none⟩)] #[]] w (RwsLease b (rowsQ leaseQ l) w) := by
  have HF := Lib.hid (find_is hl w h hE)
  have hbw := rd_lt h
  have HE := Lib.hid hE
  have h1 := find_short l
  have h2 := skip_short 91 (findP l)
  unfold rowsQ
  obtain ⟨k, hk⟩ : ∃ k, skipP 91 (findP l) = k := ⟨_, rfl⟩
  rw [hk] at h2 ⊢
  have hkl : k.length ≤ 60000 := by omega
  have HSK : Hid (∀ w', RdAt b (findP l) w' → Calls Tryz.prog 85 #[.pointer (some ⟨b, 0, none⟩), .string ⟨#[91]⟩] w' (RdPost b k (.tuple #[]) w')) := by
    intro w' h'
    have := skip_is 91 w' h'
    rwa [hk] at this
  obtain ⟨R, hR⟩ : ∃ R, rwAt leaseQ [] k = R := ⟨_, rfl⟩
  rw [hR]
  have HR := Lib.hid hR
  obtain ⟨i0, qi, qz0, qz1, qz2⟩ := info_parts' Tryz.info_lease
  have Hi := Lib.hid qi
  have Hz0 := Lib.hid qz0
  have Hz1 := Lib.hid qz1
  have Hz2 := Lib.hid qz2
  clear hk h hE h1 h2 hl hR qi qz0 qz1 qz2
  go_enter Tryz.func57, Tryz.ntmps57
  go_wp2_with fail
  refine HF.out.mono ?_
  rintro e w1 ⟨rfl, g1, o1⟩
  have HS1 := Lib.hid (HSK.out w1 o1)
  clear HF o1 HSK
  go_wp2_with fail
  refine HS1.out.mono ?_
  rintro e w2 ⟨rfl, g2, o2⟩
  have G2 := Lib.hid (jgrown_trans g1 g2)
  have O2 := Lib.hid o2
  clear g1 g2 HS1 o2
  go_wp2
  go_loopw [5] (fun rv wr => ∃ (acc : List LeaseD) (r : List UInt8), wr.ownsRow w.heap.size 56 3 rv acc.length (cLeases acc) ∧ Hid (RdAt b r wr) ∧ Hid (w.grownBy wr (some b)) ∧ Hid (rwAt leaseQ acc r = R) ∧ r.length ≤ 60000 ∧ acc.length + r.length ≤ 60000) (fun _ wr => strLen wr b)
  case atStart => exact ⟨[], k, World.ownsRow_nil _ _ _ _, O2, G2, HR, hkl, by simpa using hkl⟩
  case round =>
    obtain ⟨acc, r, hown, HO, HG, HC, hr, har⟩ := hrel
    have hms := strLen_of HO.out
    have c0 : wr.cell? ⟨b, 0, none⟩ = some (.string (baL r)) := objAt_cell HO.out 0 rfl
    have HP := Lib.hid (has_is r wr)
    by_cases h123 : r.headD 0 = 123
    · rw [show (r.headD 0 == 123) = true by rw [h123]; rfl] at HP
      have hshort := rw_short leaseQ_short h123
      have hst := rwAt_step leaseQ_short acc h123
      rw [HC.out] at hst
      have HJ := Lib.hid (rdLease_is hr wr HO.out (jenv_next HE.out HG.out (Nat.le_of_lt hbw)))
      have q1 := leaseQ_short r
      obtain ⟨L, hL⟩ : ∃ L, baL r = L := ⟨_, rfl⟩
      rw [hL] at c0 HP
      obtain ⟨q, hq⟩ : ∃ q, leaseQ r = q := ⟨_, rfl⟩
      rw [hq] at HJ hshort hst q1
      obtain ⟨u, r2⟩ := q
      dsimp only at HJ hshort hst q1
      have HST := Lib.hid hst
      have q2 := skip_short 125 r2
      have HG0 := HG.out.size
      clear h123 hst hL hq HC
      go_wp2_with fail
      refine HP.out.mono ?_
      rintro e w3 ⟨rfl, rfl⟩
      go_wp2_with fail
      refine HJ.out.mono ?_
      rintro e w4 ⟨rfl, g4, o4⟩
      have hown4 := hown.kept g4 (by
        cases hv : Value.ownBlock _ with
        | none => exact .inl rfl
        | some kk =>
          right
          have := (hown.lt kk hv).1
          simp; omega)
      have hs4 := g4.size
      have G4 := Lib.hid (jgrown_trans HG.out g4)
      have O4 := Lib.hid o4
      clear hown g4 o4 HJ HP HO HG c0
      go_wp2_with (at_builtin; refine wpList_append_own _ rfl _ _ 24 rfl w.heap.size 56 i0 _ 3 40 Tryz.underlying24 Hi.out Hz0.out Hz1.out Hz2.out rfl (by decide) _ _ _ rfl (hown4.alloc _) ⟨w4.heap.size, 0, none⟩ 1 1 (cLease u) rfl rfl ?c1 ?c2 ?c3 ?c4 ?c5 ?_)
      case c1 => exact lease_new w4 u _
      case c2 => exact lease_ones u
      case c3 => unfold maxLen; omega
      case c4 => omega
      case c5 => simp; omega
      · intro v5 w5 own5 hg5 _
        have own5' : w5.ownsRow w.heap.size 56 3 v5 (acc ++ [u]).length (cLeases (acc ++ [u])) := by rw [cLeases_append, cLeases_one, List.length_append]; simpa using own5
        have gA : w4.grownBy (w4.alloc (.cells #[.string u.job, .string u.node, .int .i64 u.til] 56)) none := World.grownBy_alloc w4 _ none
        have o5 : RdAt b r2 w5 := by
          have oa := objAt_next O4.out (below_one w4 (.cells #[.string u.job, .string u.node, .int .i64 u.til] 56))
          unfold RdAt ObjAt at oa ⊢
          rw [hg5.block b (by have := rd_lt O4.out; simp; omega) (by
            intro e
            have := (hown4.lt b e.symm).1
            omega)]
          exact oa
        have G5 : Hid (w.grownBy w5 (some b)) := by
          have ga := jgrown_trans G4.out (grown_of_below (below_one w4 (.cells #[.string u.job, .string u.node, .int .i64 u.til] 56)) _)
          refine ⟨hg5.os.trans ga.os, hg5.tape.trans ga.tape, hg5.output.trans ga.output, Nat.le_trans ga.size hg5.size, fun i hi hne => ?_⟩
          rw [hg5.block i (Nat.lt_of_lt_of_le hi ga.size) (by
            intro e
            have := (hown4.lt i e.symm).1
            omega)]
          exact ga.block i hi hne
        have HS5 := Lib.hid (skip_is 125 w5 o5)
        clear own5 hg5 hown4 O4 G4 gA o5
        go_wp2_with fail
        refine HS5.out.mono ?_
        rintro e w6 ⟨rfl, g6, o6⟩
        have own6 := own5'.kept g6 (by
          cases hv : Value.ownBlock _ with
          | none => exact .inl rfl
          | some kk =>
            right
            have := (own5'.lt kk hv).1
            simp; omega)
        have G6 := Lib.hid (jgrown_trans G5.out g6)
        have HS6 := Lib.hid (skip_is 44 w6 o6)
        clear own5' g6 o6 HS5 G5
        go_wp2_with fail
        refine HS6.out.mono ?_
        rintro e w7 ⟨rfl, g7, o7⟩
        have own7 := own6.kept g7 (by
          cases hv : Value.ownBlock _ with
          | none => exact .inl rfl
          | some kk =>
            right
            have := (own6.lt kk hv).1
            simp; omega)
        have G7 := Lib.hid (jgrown_trans G6.out g7)
        have hm7 := strLen_of o7
        have O7 := Lib.hid o7
        clear own6 g7 o7 HS6 G6
        go_wp2
        go_roundw
        case rel => exact ⟨acc ++ [u], skipP 44 (skipP 125 r2), own7, O7, G7, HST.out.symm, by omega, by simp only [List.length_append, List.length_cons, List.length_nil]; omega⟩
        case measure => rw [hms, hm7]; exact hshort
    · rw [show (r.headD 0 == 123) = false by rw [beq_eq_false_iff_ne]; exact h123] at HP
      have hfin := HC.out
      rw [rwAt_end leaseQ acc h123] at hfin
      subst hfin
      obtain ⟨L, hL⟩ : ∃ L, baL r = L := ⟨_, rfl⟩
      rw [hL] at c0 HP
      clear h123 hL
      go_wp2_with fail
      refine HP.out.mono ?_
      rintro e w3 ⟨rfl, rfl⟩
      go_wp2
      go_ret
      exact ⟨_, rfl, hown, HG.out, HO.out⟩
end Go.Proofs.YthbgaphidojneaaGreatDoor
