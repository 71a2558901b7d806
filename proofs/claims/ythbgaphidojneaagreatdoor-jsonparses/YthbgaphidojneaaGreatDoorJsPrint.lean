/- Package json's Print: rows, and the whole. Written by gen_js.py. -/
import Derived.Test.YthbgaphidojneaaGreatDoorJsJoin
import Derived.Test.YthbgaphidojneaaGreatDoorJsState
import Derived.Test.YthbgaphidojneaaGreatDoorJsBound
import Derived.Test.YthbgaphidojneaaGreatDoorPkSt1
import Derived.Test.YthbgaphidojneaaGreatDoorPkSt2
import Derived.Deep.RegionHeld3
namespace Go.Proofs.YthbgaphidojneaaGreatDoor
open Go.RowKit
theorem qd_size (s : ByteArray) (h : s.size ≤ 16) : (baL (quoteL s.data.toList)).size ≤ 98 := by rw [baL_size]; exact quote_len s h
theorem dg_size (n : Int) (h : small18 n) : (baL (digZ n)).size ≤ 19 := by rw [baL_size]; exact digZ_len h
theorem i64_of {n : Int} (h : small18 n) : -9223372036854775808 ≤ n ∧ n ≤ 9223372036854775807 := by unfold small18 at h; omega
theorem jheld3 {T : Nat} {v0 v1 v2 : Value} {W w1 w2 : World} (b2 : Below w1.heap.size w1 w2) (h : (w1.cell? ⟨T, 0, none⟩ = some v0 ∧ w1.cell? ⟨T, 1, none⟩ = some v1 ∧ w1.cell? ⟨T, 2, none⟩ = some v2) ∧ T < w1.heap.size ∧ Below W.heap.size W w1) : (w2.cell? ⟨T, 0, none⟩ = some v0 ∧ w2.cell? ⟨T, 1, none⟩ = some v1 ∧ w2.cell? ⟨T, 2, none⟩ = some v2) ∧ T < w2.heap.size ∧ Below W.heap.size W w2 := by
  obtain ⟨⟨c0, c1, c2⟩, h1, h3⟩ := h
  have hs := b2.size
  exact ⟨⟨by rw [b2.cell (p := ⟨T, 0, none⟩) h1]; exact c0, by rw [b2.cell (p := ⟨T, 1, none⟩) h1]; exact c1, by rw [b2.cell (p := ⟨T, 2, none⟩) h1]; exact c2⟩, by omega, below_trans h3 b2 h3.size⟩
theorem jheld4 {T : Nat} {v0 v1 v2 v3 : Value} {W w1 w2 : World} (b2 : Below w1.heap.size w1 w2) (h : (w1.cell? ⟨T, 0, none⟩ = some v0 ∧ w1.cell? ⟨T, 1, none⟩ = some v1 ∧ w1.cell? ⟨T, 2, none⟩ = some v2 ∧ w1.cell? ⟨T, 3, none⟩ = some v3) ∧ T < w1.heap.size ∧ Below W.heap.size W w1) : (w2.cell? ⟨T, 0, none⟩ = some v0 ∧ w2.cell? ⟨T, 1, none⟩ = some v1 ∧ w2.cell? ⟨T, 2, none⟩ = some v2 ∧ w2.cell? ⟨T, 3, none⟩ = some v3) ∧ T < w2.heap.size ∧ Below W.heap.size W w2 := by
  obtain ⟨⟨c0, c1, c2, c3⟩, h1, h3⟩ := h
  have hs := b2.size
  exact ⟨⟨by rw [b2.cell (p := ⟨T, 0, none⟩) h1]; exact c0, by rw [b2.cell (p := ⟨T, 1, none⟩) h1]; exact c1, by rw [b2.cell (p := ⟨T, 2, none⟩) h1]; exact c2, by rw [b2.cell (p := ⟨T, 3, none⟩) h1]; exact c3⟩, by omega, below_trans h3 b2 h3.size⟩
theorem jheld5 {T : Nat} {v0 v1 v2 v3 v4 : Value} {W w1 w2 : World} (b2 : Below w1.heap.size w1 w2) (h : (w1.cell? ⟨T, 0, none⟩ = some v0 ∧ w1.cell? ⟨T, 1, none⟩ = some v1 ∧ w1.cell? ⟨T, 2, none⟩ = some v2 ∧ w1.cell? ⟨T, 3, none⟩ = some v3 ∧ w1.cell? ⟨T, 4, none⟩ = some v4) ∧ T < w1.heap.size ∧ Below W.heap.size W w1) : (w2.cell? ⟨T, 0, none⟩ = some v0 ∧ w2.cell? ⟨T, 1, none⟩ = some v1 ∧ w2.cell? ⟨T, 2, none⟩ = some v2 ∧ w2.cell? ⟨T, 3, none⟩ = some v3 ∧ w2.cell? ⟨T, 4, none⟩ = some v4) ∧ T < w2.heap.size ∧ Below W.heap.size W w2 := by
  obtain ⟨⟨c0, c1, c2, c3, c4⟩, h1, h3⟩ := h
  have hs := b2.size
  exact ⟨⟨by rw [b2.cell (p := ⟨T, 0, none⟩) h1]; exact c0, by rw [b2.cell (p := ⟨T, 1, none⟩) h1]; exact c1, by rw [b2.cell (p := ⟨T, 2, none⟩) h1]; exact c2, by rw [b2.cell (p := ⟨T, 3, none⟩) h1]; exact c3, by rw [b2.cell (p := ⟨T, 4, none⟩) h1]; exact c4⟩, by omega, below_trans h3 b2 h3.size⟩
set_option maxRecDepth 100000 in
set_option maxHeartbeats 8000000 in
theorem printJob_is (x : JobD) (h0 : x.name.size ≤ 16) (h1 : small18 x.prio) (h2 : small18 x.need) (h3 : small18 x.tries) (h4 : x.tag.size ≤ 16) (w : World) (hP : Pow10 w) :
    Calls Tryz.prog 31 #[.agg #[.string x.name, .int .i64 x.prio, .int .i64 x.need, .int .i64 x.tries, .string x.tag]] w fun e w' => e = .returned (.string (baL (jobJ x))) ∧ Below w.heap.size w w' := by
  obtain ⟨W, hW⟩ : ∃ W, w.alloc (.cells #[.string x.name, .int .i64 x.prio, .int .i64 x.need, .int .i64 x.tries, .string x.tag] 51) = W := ⟨_, rfl⟩
  have q := box_new5 w (.string x.name) (.int .i64 x.prio) (.int .i64 x.need) (.int .i64 x.tries) (.string x.tag) 51
  have bW := below_one w (.cells #[.string x.name, .int .i64 x.prio, .int .i64 x.need, .int .i64 x.tries, .string x.tag] 51)
  rw [hW] at q bW
  have o1 : (W.cell? ⟨w.heap.size, 0, none⟩ = some (.string x.name) ∧ W.cell? ⟨w.heap.size, 1, none⟩ = some (.int .i64 x.prio) ∧ W.cell? ⟨w.heap.size, 2, none⟩ = some (.int .i64 x.need) ∧ W.cell? ⟨w.heap.size, 3, none⟩ = some (.int .i64 x.tries) ∧ W.cell? ⟨w.heap.size, 4, none⟩ = some (.string x.tag)) ∧ w.heap.size < W.heap.size ∧ Below W.heap.size W W := ⟨⟨q.1 0 _ rfl, q.1 1 _ rfl, q.1 2 _ rfl, q.1 3 _ rfl, q.1 4 _ rfl⟩, q.2, Below.refl _ _⟩
  have C0 := fun w' => quote_is x.name (by omega) w'
  have z0 := qd_size x.name h0
  obtain ⟨P0, e0⟩ : ∃ P, baL (quoteL x.name.data.toList) = P := ⟨_, rfl⟩
  rw [e0] at C0 z0
  have C1 : ∀ w', (w'.cell? ⟨w.heap.size, 0, none⟩ = some (.string x.name) ∧ w'.cell? ⟨w.heap.size, 1, none⟩ = some (.int .i64 x.prio) ∧ w'.cell? ⟨w.heap.size, 2, none⟩ = some (.int .i64 x.need) ∧ w'.cell? ⟨w.heap.size, 3, none⟩ = some (.int .i64 x.tries) ∧ w'.cell? ⟨w.heap.size, 4, none⟩ = some (.string x.tag)) ∧ w.heap.size < w'.heap.size ∧ Below W.heap.size W w' → Calls Tryz.prog 29 #[.int .i64 x.prio] w' fun e w2 => e = .returned (.string (baL (digZ x.prio))) ∧ Below w'.heap.size w' w2 := fun w' h => itoa_is ((hP.below bW).below h.2.2) x.prio (i64_of h1).1 (i64_of h1).2
  have z1 := dg_size x.prio h1
  obtain ⟨P1, e1⟩ : ∃ P, baL (digZ x.prio) = P := ⟨_, rfl⟩
  rw [e1] at C1 z1
  have C2 : ∀ w', (w'.cell? ⟨w.heap.size, 0, none⟩ = some (.string x.name) ∧ w'.cell? ⟨w.heap.size, 1, none⟩ = some (.int .i64 x.prio) ∧ w'.cell? ⟨w.heap.size, 2, none⟩ = some (.int .i64 x.need) ∧ w'.cell? ⟨w.heap.size, 3, none⟩ = some (.int .i64 x.tries) ∧ w'.cell? ⟨w.heap.size, 4, none⟩ = some (.string x.tag)) ∧ w.heap.size < w'.heap.size ∧ Below W.heap.size W w' → Calls Tryz.prog 29 #[.int .i64 x.need] w' fun e w2 => e = .returned (.string (baL (digZ x.need))) ∧ Below w'.heap.size w' w2 := fun w' h => itoa_is ((hP.below bW).below h.2.2) x.need (i64_of h2).1 (i64_of h2).2
  have z2 := dg_size x.need h2
  obtain ⟨P2, e2⟩ : ∃ P, baL (digZ x.need) = P := ⟨_, rfl⟩
  rw [e2] at C2 z2
  have C3 : ∀ w', (w'.cell? ⟨w.heap.size, 0, none⟩ = some (.string x.name) ∧ w'.cell? ⟨w.heap.size, 1, none⟩ = some (.int .i64 x.prio) ∧ w'.cell? ⟨w.heap.size, 2, none⟩ = some (.int .i64 x.need) ∧ w'.cell? ⟨w.heap.size, 3, none⟩ = some (.int .i64 x.tries) ∧ w'.cell? ⟨w.heap.size, 4, none⟩ = some (.string x.tag)) ∧ w.heap.size < w'.heap.size ∧ Below W.heap.size W w' → Calls Tryz.prog 29 #[.int .i64 x.tries] w' fun e w2 => e = .returned (.string (baL (digZ x.tries))) ∧ Below w'.heap.size w' w2 := fun w' h => itoa_is ((hP.below bW).below h.2.2) x.tries (i64_of h3).1 (i64_of h3).2
  have z3 := dg_size x.tries h3
  obtain ⟨P3, e3⟩ : ∃ P, baL (digZ x.tries) = P := ⟨_, rfl⟩
  rw [e3] at C3 z3
  have C4 := fun w' => quote_is x.tag (by omega) w'
  have z4 := qd_size x.tag h4
  obtain ⟨P4, e4⟩ : ∃ P, baL (quoteL x.tag.data.toList) = P := ⟨_, rfl⟩
  rw [e4] at C4 z4
  obtain ⟨A1, y1⟩ : ∃ A, (⟨#[123, 34, 110, 97, 109, 101, 34, 58]⟩ : ByteArray) ++ P0 = A := ⟨_, rfl⟩
  have r1 : ¬ (9223372036854775807 < 8 + P0.size) ∧ A1.size = 8 + P0.size := by
    have e : A1.size = 8 + P0.size := by rw [← y1, ByteArray.size_append]; rfl
    exact ⟨by omega, e⟩
  obtain ⟨A2, y2⟩ : ∃ A, A1 ++ (⟨#[44, 34, 112, 114, 105, 111, 34, 58]⟩ : ByteArray) = A := ⟨_, rfl⟩
  have r2 : ¬ (9223372036854775807 < A1.size + 8) ∧ A2.size = A1.size + 8 := by
    have e : A2.size = A1.size + 8 := by rw [← y2, ByteArray.size_append]; rfl
    exact ⟨by omega, e⟩
  obtain ⟨A3, y3⟩ : ∃ A, A2 ++ P1 = A := ⟨_, rfl⟩
  have r3 : ¬ (9223372036854775807 < A2.size + P1.size) ∧ A3.size = A2.size + P1.size := by
    have e : A3.size = A2.size + P1.size := by rw [← y3, ByteArray.size_append]
    exact ⟨by omega, e⟩
  obtain ⟨A4, y4⟩ : ∃ A, A3 ++ (⟨#[44, 34, 110, 101, 101, 100, 34, 58]⟩ : ByteArray) = A := ⟨_, rfl⟩
  have r4 : ¬ (9223372036854775807 < A3.size + 8) ∧ A4.size = A3.size + 8 := by
    have e : A4.size = A3.size + 8 := by rw [← y4, ByteArray.size_append]; rfl
    exact ⟨by omega, e⟩
  obtain ⟨A5, y5⟩ : ∃ A, A4 ++ P2 = A := ⟨_, rfl⟩
  have r5 : ¬ (9223372036854775807 < A4.size + P2.size) ∧ A5.size = A4.size + P2.size := by
    have e : A5.size = A4.size + P2.size := by rw [← y5, ByteArray.size_append]
    exact ⟨by omega, e⟩
  obtain ⟨A6, y6⟩ : ∃ A, A5 ++ (⟨#[44, 34, 116, 114, 105, 101, 115, 34, 58]⟩ : ByteArray) = A := ⟨_, rfl⟩
  have r6 : ¬ (9223372036854775807 < A5.size + 9) ∧ A6.size = A5.size + 9 := by
    have e : A6.size = A5.size + 9 := by rw [← y6, ByteArray.size_append]; rfl
    exact ⟨by omega, e⟩
  obtain ⟨A7, y7⟩ : ∃ A, A6 ++ P3 = A := ⟨_, rfl⟩
  have r7 : ¬ (9223372036854775807 < A6.size + P3.size) ∧ A7.size = A6.size + P3.size := by
    have e : A7.size = A6.size + P3.size := by rw [← y7, ByteArray.size_append]
    exact ⟨by omega, e⟩
  obtain ⟨A8, y8⟩ : ∃ A, A7 ++ (⟨#[44, 34, 116, 97, 103, 34, 58]⟩ : ByteArray) = A := ⟨_, rfl⟩
  have r8 : ¬ (9223372036854775807 < A7.size + 7) ∧ A8.size = A7.size + 7 := by
    have e : A8.size = A7.size + 7 := by rw [← y8, ByteArray.size_append]; rfl
    exact ⟨by omega, e⟩
  obtain ⟨A9, y9⟩ : ∃ A, A8 ++ P4 = A := ⟨_, rfl⟩
  have r9 : ¬ (9223372036854775807 < A8.size + P4.size) ∧ A9.size = A8.size + P4.size := by
    have e : A9.size = A8.size + P4.size := by rw [← y9, ByteArray.size_append]
    exact ⟨by omega, e⟩
  obtain ⟨A10, y10⟩ : ∃ A, A9 ++ (⟨#[125]⟩ : ByteArray) = A := ⟨_, rfl⟩
  have r10 : ¬ (9223372036854775807 < A9.size + 1) ∧ A10.size = A9.size + 1 := by
    have e : A10.size = A9.size + 1 := by rw [← y10, ByteArray.size_append]; rfl
    exact ⟨by omega, e⟩
  obtain ⟨r1, s1⟩ := r1
  obtain ⟨r2, s2⟩ := r2
  obtain ⟨r3, s3⟩ := r3
  obtain ⟨r4, s4⟩ := r4
  obtain ⟨r5, s5⟩ := r5
  obtain ⟨r6, s6⟩ := r6
  obtain ⟨r7, s7⟩ := r7
  obtain ⟨r8, s8⟩ := r8
  obtain ⟨r9, s9⟩ := r9
  obtain ⟨r10, s10⟩ := r10
  have HR : Hid (baL (jobJ x) = A10) := by
    show _ = _
    rw [← y10, ← y9, ← y8, ← y7, ← y6, ← y5, ← y4, ← y3, ← y2, ← y1]
    rw [← e0, ← e1, ← e2, ← e3, ← e4]
    have hb : ∀ l : List UInt8, (⟨l.toArray⟩ : ByteArray) = baL l := fun _ => rfl
    simp only [show (⟨#[123, 34, 110, 97, 109, 101, 34, 58]⟩ : ByteArray) = baL [123, 34, 110, 97, 109, 101, 34, 58] from rfl, show (⟨#[44, 34, 112, 114, 105, 111, 34, 58]⟩ : ByteArray) = baL [44, 34, 112, 114, 105, 111, 34, 58] from rfl, show (⟨#[44, 34, 110, 101, 101, 100, 34, 58]⟩ : ByteArray) = baL [44, 34, 110, 101, 101, 100, 34, 58] from rfl, show (⟨#[44, 34, 116, 114, 105, 101, 115, 34, 58]⟩ : ByteArray) = baL [44, 34, 116, 114, 105, 101, 115, 34, 58] from rfl, show (⟨#[44, 34, 116, 97, 103, 34, 58]⟩ : ByteArray) = baL [44, 34, 116, 97, 103, 34, 58] from rfl, show (⟨#[125]⟩ : ByteArray) = baL [125] from rfl]
    simp only [← baL_app]
    congr 1
    simp [jobJ, quoteB]
  have BW := Lib.hid bW
  clear q bW hP e0 e1 e2 e3 e4 s1 s2 s3 s4 s5 s6 s7 s8 s9 s10
  have H0 := Lib.hid C0
  have H1 := Lib.hid C1
  have H2 := Lib.hid C2
  have H3 := Lib.hid C3
  have H4 := Lib.hid C4
  clear C0 C1 C2 C3 C4
  go_enter Tryz.func31, Tryz.ntmps31
  go_wp2_with fail
  go_region_held3 (fun w' => (w'.cell? ⟨w.heap.size, 0, none⟩ = some (.string x.name) ∧ w'.cell? ⟨w.heap.size, 1, none⟩ = some (.int .i64 x.prio) ∧ w'.cell? ⟨w.heap.size, 2, none⟩ = some (.int .i64 x.need) ∧ w'.cell? ⟨w.heap.size, 3, none⟩ = some (.int .i64 x.tries) ∧ w'.cell? ⟨w.heap.size, 4, none⟩ = some (.string x.tag)) ∧ w.heap.size < w'.heap.size ∧ Below W.heap.size W w') (first | assumption | exact ⟨o1.1, o1.2.1, o1.2.2.drew⟩) (first
    | (go_at_call 66; (with_reducible refine (H0.out _).mono ?_); rintro e x0 ⟨rfl, c0⟩; have t0 := jheld5 (W := W) c0 (by assumption))
    | (go_at_call 29; (with_reducible refine (H1.out _ (by assumption)).mono ?_); rintro e x1 ⟨rfl, c1⟩; have t1 := jheld5 (W := W) c1 (by assumption))
    | (go_at_call 29; (with_reducible refine (H2.out _ (by assumption)).mono ?_); rintro e x2 ⟨rfl, c2⟩; have t2 := jheld5 (W := W) c2 (by assumption))
    | (go_at_call 29; (with_reducible refine (H3.out _ (by assumption)).mono ?_); rintro e x3 ⟨rfl, c3⟩; have t3 := jheld5 (W := W) c3 (by assumption))
    | (go_at_call 66; (with_reducible refine (H4.out _).mono ?_); rintro e x4 ⟨rfl, c4⟩; have t4 := jheld5 (W := W) c4 (by assumption)))
  rename_i s99
  go_wp2
  go_ret
  exact ⟨congrArg (fun z => Ending.returned (Value.string z)) HR.out.symm, below_trans BW.out s99.2.2 BW.out.size⟩
set_option maxRecDepth 100000 in
set_option maxHeartbeats 8000000 in
theorem printNode_is (x : NodeD) (h0 : x.name.size ≤ 16) (h1 : small18 x.room) (h2 : x.zone.size ≤ 16) (w : World) (hP : Pow10 w) :
    Calls Tryz.prog 33 #[.agg #[.string x.name, .int .i64 x.room, .string x.zone]] w fun e w' => e = .returned (.string (baL (nodeJ x))) ∧ Below w.heap.size w w' := by
  obtain ⟨W, hW⟩ : ∃ W, w.alloc (.cells #[.string x.name, .int .i64 x.room, .string x.zone] 54) = W := ⟨_, rfl⟩
  have q := box_new3 w (.string x.name) (.int .i64 x.room) (.string x.zone) 54
  have bW := below_one w (.cells #[.string x.name, .int .i64 x.room, .string x.zone] 54)
  rw [hW] at q bW
  have o1 : (W.cell? ⟨w.heap.size, 0, none⟩ = some (.string x.name) ∧ W.cell? ⟨w.heap.size, 1, none⟩ = some (.int .i64 x.room) ∧ W.cell? ⟨w.heap.size, 2, none⟩ = some (.string x.zone)) ∧ w.heap.size < W.heap.size ∧ Below W.heap.size W W := ⟨⟨q.1 0 _ rfl, q.1 1 _ rfl, q.1 2 _ rfl⟩, q.2, Below.refl _ _⟩
  have C0 := fun w' => quote_is x.name (by omega) w'
  have z0 := qd_size x.name h0
  obtain ⟨P0, e0⟩ : ∃ P, baL (quoteL x.name.data.toList) = P := ⟨_, rfl⟩
  rw [e0] at C0 z0
  have C1 : ∀ w', (w'.cell? ⟨w.heap.size, 0, none⟩ = some (.string x.name) ∧ w'.cell? ⟨w.heap.size, 1, none⟩ = some (.int .i64 x.room) ∧ w'.cell? ⟨w.heap.size, 2, none⟩ = some (.string x.zone)) ∧ w.heap.size < w'.heap.size ∧ Below W.heap.size W w' → Calls Tryz.prog 29 #[.int .i64 x.room] w' fun e w2 => e = .returned (.string (baL (digZ x.room))) ∧ Below w'.heap.size w' w2 := fun w' h => itoa_is ((hP.below bW).below h.2.2) x.room (i64_of h1).1 (i64_of h1).2
  have z1 := dg_size x.room h1
  obtain ⟨P1, e1⟩ : ∃ P, baL (digZ x.room) = P := ⟨_, rfl⟩
  rw [e1] at C1 z1
  have C2 := fun w' => quote_is x.zone (by omega) w'
  have z2 := qd_size x.zone h2
  obtain ⟨P2, e2⟩ : ∃ P, baL (quoteL x.zone.data.toList) = P := ⟨_, rfl⟩
  rw [e2] at C2 z2
  obtain ⟨A1, y1⟩ : ∃ A, (⟨#[123, 34, 110, 97, 109, 101, 34, 58]⟩ : ByteArray) ++ P0 = A := ⟨_, rfl⟩
  have r1 : ¬ (9223372036854775807 < 8 + P0.size) ∧ A1.size = 8 + P0.size := by
    have e : A1.size = 8 + P0.size := by rw [← y1, ByteArray.size_append]; rfl
    exact ⟨by omega, e⟩
  obtain ⟨A2, y2⟩ : ∃ A, A1 ++ (⟨#[44, 34, 114, 111, 111, 109, 34, 58]⟩ : ByteArray) = A := ⟨_, rfl⟩
  have r2 : ¬ (9223372036854775807 < A1.size + 8) ∧ A2.size = A1.size + 8 := by
    have e : A2.size = A1.size + 8 := by rw [← y2, ByteArray.size_append]; rfl
    exact ⟨by omega, e⟩
  obtain ⟨A3, y3⟩ : ∃ A, A2 ++ P1 = A := ⟨_, rfl⟩
  have r3 : ¬ (9223372036854775807 < A2.size + P1.size) ∧ A3.size = A2.size + P1.size := by
    have e : A3.size = A2.size + P1.size := by rw [← y3, ByteArray.size_append]
    exact ⟨by omega, e⟩
  obtain ⟨A4, y4⟩ : ∃ A, A3 ++ (⟨#[44, 34, 122, 111, 110, 101, 34, 58]⟩ : ByteArray) = A := ⟨_, rfl⟩
  have r4 : ¬ (9223372036854775807 < A3.size + 8) ∧ A4.size = A3.size + 8 := by
    have e : A4.size = A3.size + 8 := by rw [← y4, ByteArray.size_append]; rfl
    exact ⟨by omega, e⟩
  obtain ⟨A5, y5⟩ : ∃ A, A4 ++ P2 = A := ⟨_, rfl⟩
  have r5 : ¬ (9223372036854775807 < A4.size + P2.size) ∧ A5.size = A4.size + P2.size := by
    have e : A5.size = A4.size + P2.size := by rw [← y5, ByteArray.size_append]
    exact ⟨by omega, e⟩
  obtain ⟨A6, y6⟩ : ∃ A, A5 ++ (⟨#[125]⟩ : ByteArray) = A := ⟨_, rfl⟩
  have r6 : ¬ (9223372036854775807 < A5.size + 1) ∧ A6.size = A5.size + 1 := by
    have e : A6.size = A5.size + 1 := by rw [← y6, ByteArray.size_append]; rfl
    exact ⟨by omega, e⟩
  obtain ⟨r1, s1⟩ := r1
  obtain ⟨r2, s2⟩ := r2
  obtain ⟨r3, s3⟩ := r3
  obtain ⟨r4, s4⟩ := r4
  obtain ⟨r5, s5⟩ := r5
  obtain ⟨r6, s6⟩ := r6
  have HR : Hid (baL (nodeJ x) = A6) := by
    show _ = _
    rw [← y6, ← y5, ← y4, ← y3, ← y2, ← y1]
    rw [← e0, ← e1, ← e2]
    have hb : ∀ l : List UInt8, (⟨l.toArray⟩ : ByteArray) = baL l := fun _ => rfl
    simp only [show (⟨#[123, 34, 110, 97, 109, 101, 34, 58]⟩ : ByteArray) = baL [123, 34, 110, 97, 109, 101, 34, 58] from rfl, show (⟨#[44, 34, 114, 111, 111, 109, 34, 58]⟩ : ByteArray) = baL [44, 34, 114, 111, 111, 109, 34, 58] from rfl, show (⟨#[44, 34, 122, 111, 110, 101, 34, 58]⟩ : ByteArray) = baL [44, 34, 122, 111, 110, 101, 34, 58] from rfl, show (⟨#[125]⟩ : ByteArray) = baL [125] from rfl]
    simp only [← baL_app]
    congr 1
    simp [nodeJ, quoteB]
  have BW := Lib.hid bW
  clear q bW hP e0 e1 e2 s1 s2 s3 s4 s5 s6
  have H0 := Lib.hid C0
  have H1 := Lib.hid C1
  have H2 := Lib.hid C2
  clear C0 C1 C2
  go_enter Tryz.func33, Tryz.ntmps33
  go_wp2_with fail
  go_region_held3 (fun w' => (w'.cell? ⟨w.heap.size, 0, none⟩ = some (.string x.name) ∧ w'.cell? ⟨w.heap.size, 1, none⟩ = some (.int .i64 x.room) ∧ w'.cell? ⟨w.heap.size, 2, none⟩ = some (.string x.zone)) ∧ w.heap.size < w'.heap.size ∧ Below W.heap.size W w') (first | assumption | exact ⟨o1.1, o1.2.1, o1.2.2.drew⟩) (first
    | (go_at_call 66; (with_reducible refine (H0.out _).mono ?_); rintro e x0 ⟨rfl, c0⟩; have t0 := jheld3 (W := W) c0 (by assumption))
    | (go_at_call 29; (with_reducible refine (H1.out _ (by assumption)).mono ?_); rintro e x1 ⟨rfl, c1⟩; have t1 := jheld3 (W := W) c1 (by assumption))
    | (go_at_call 66; (with_reducible refine (H2.out _).mono ?_); rintro e x2 ⟨rfl, c2⟩; have t2 := jheld3 (W := W) c2 (by assumption)))
  rename_i s99
  go_wp2
  go_ret
  exact ⟨congrArg (fun z => Ending.returned (Value.string z)) HR.out.symm, below_trans BW.out s99.2.2 BW.out.size⟩
set_option maxRecDepth 100000 in
set_option maxHeartbeats 8000000 in
theorem printLease_is (x : LeaseD) (h0 : x.job.size ≤ 16) (h1 : x.node.size ≤ 16) (h2 : small18 x.til) (w : World) (hP : Pow10 w) :
    Calls Tryz.prog 35 #[.agg #[.string x.job, .string x.node, .int .i64 x.til]] w fun e w' => e = .returned (.string (baL (leaseJ x))) ∧ Below w.heap.size w w' := by
  obtain ⟨W, hW⟩ : ∃ W, w.alloc (.cells #[.string x.job, .string x.node, .int .i64 x.til] 56) = W := ⟨_, rfl⟩
  have q := box_new3 w (.string x.job) (.string x.node) (.int .i64 x.til) 56
  have bW := below_one w (.cells #[.string x.job, .string x.node, .int .i64 x.til] 56)
  rw [hW] at q bW
  have o1 : (W.cell? ⟨w.heap.size, 0, none⟩ = some (.string x.job) ∧ W.cell? ⟨w.heap.size, 1, none⟩ = some (.string x.node) ∧ W.cell? ⟨w.heap.size, 2, none⟩ = some (.int .i64 x.til)) ∧ w.heap.size < W.heap.size ∧ Below W.heap.size W W := ⟨⟨q.1 0 _ rfl, q.1 1 _ rfl, q.1 2 _ rfl⟩, q.2, Below.refl _ _⟩
  have C0 := fun w' => quote_is x.job (by omega) w'
  have z0 := qd_size x.job h0
  obtain ⟨P0, e0⟩ : ∃ P, baL (quoteL x.job.data.toList) = P := ⟨_, rfl⟩
  rw [e0] at C0 z0
  have C1 := fun w' => quote_is x.node (by omega) w'
  have z1 := qd_size x.node h1
  obtain ⟨P1, e1⟩ : ∃ P, baL (quoteL x.node.data.toList) = P := ⟨_, rfl⟩
  rw [e1] at C1 z1
  have C2 : ∀ w', (w'.cell? ⟨w.heap.size, 0, none⟩ = some (.string x.job) ∧ w'.cell? ⟨w.heap.size, 1, none⟩ = some (.string x.node) ∧ w'.cell? ⟨w.heap.size, 2, none⟩ = some (.int .i64 x.til)) ∧ w.heap.size < w'.heap.size ∧ Below W.heap.size W w' → Calls Tryz.prog 29 #[.int .i64 x.til] w' fun e w2 => e = .returned (.string (baL (digZ x.til))) ∧ Below w'.heap.size w' w2 := fun w' h => itoa_is ((hP.below bW).below h.2.2) x.til (i64_of h2).1 (i64_of h2).2
  have z2 := dg_size x.til h2
  obtain ⟨P2, e2⟩ : ∃ P, baL (digZ x.til) = P := ⟨_, rfl⟩
  rw [e2] at C2 z2
  obtain ⟨A1, y1⟩ : ∃ A, (⟨#[123, 34, 106, 111, 98, 34, 58]⟩ : ByteArray) ++ P0 = A := ⟨_, rfl⟩
  have r1 : ¬ (9223372036854775807 < 7 + P0.size) ∧ A1.size = 7 + P0.size := by
    have e : A1.size = 7 + P0.size := by rw [← y1, ByteArray.size_append]; rfl
    exact ⟨by omega, e⟩
  obtain ⟨A2, y2⟩ : ∃ A, A1 ++ (⟨#[44, 34, 110, 111, 100, 101, 34, 58]⟩ : ByteArray) = A := ⟨_, rfl⟩
  have r2 : ¬ (9223372036854775807 < A1.size + 8) ∧ A2.size = A1.size + 8 := by
    have e : A2.size = A1.size + 8 := by rw [← y2, ByteArray.size_append]; rfl
    exact ⟨by omega, e⟩
  obtain ⟨A3, y3⟩ : ∃ A, A2 ++ P1 = A := ⟨_, rfl⟩
  have r3 : ¬ (9223372036854775807 < A2.size + P1.size) ∧ A3.size = A2.size + P1.size := by
    have e : A3.size = A2.size + P1.size := by rw [← y3, ByteArray.size_append]
    exact ⟨by omega, e⟩
  obtain ⟨A4, y4⟩ : ∃ A, A3 ++ (⟨#[44, 34, 117, 110, 116, 105, 108, 34, 58]⟩ : ByteArray) = A := ⟨_, rfl⟩
  have r4 : ¬ (9223372036854775807 < A3.size + 9) ∧ A4.size = A3.size + 9 := by
    have e : A4.size = A3.size + 9 := by rw [← y4, ByteArray.size_append]; rfl
    exact ⟨by omega, e⟩
  obtain ⟨A5, y5⟩ : ∃ A, A4 ++ P2 = A := ⟨_, rfl⟩
  have r5 : ¬ (9223372036854775807 < A4.size + P2.size) ∧ A5.size = A4.size + P2.size := by
    have e : A5.size = A4.size + P2.size := by rw [← y5, ByteArray.size_append]
    exact ⟨by omega, e⟩
  obtain ⟨A6, y6⟩ : ∃ A, A5 ++ (⟨#[125]⟩ : ByteArray) = A := ⟨_, rfl⟩
  have r6 : ¬ (9223372036854775807 < A5.size + 1) ∧ A6.size = A5.size + 1 := by
    have e : A6.size = A5.size + 1 := by rw [← y6, ByteArray.size_append]; rfl
    exact ⟨by omega, e⟩
  obtain ⟨r1, s1⟩ := r1
  obtain ⟨r2, s2⟩ := r2
  obtain ⟨r3, s3⟩ := r3
  obtain ⟨r4, s4⟩ := r4
  obtain ⟨r5, s5⟩ := r5
  obtain ⟨r6, s6⟩ := r6
  have HR : Hid (baL (leaseJ x) = A6) := by
    show _ = _
    rw [← y6, ← y5, ← y4, ← y3, ← y2, ← y1]
    rw [← e0, ← e1, ← e2]
    have hb : ∀ l : List UInt8, (⟨l.toArray⟩ : ByteArray) = baL l := fun _ => rfl
    simp only [show (⟨#[123, 34, 106, 111, 98, 34, 58]⟩ : ByteArray) = baL [123, 34, 106, 111, 98, 34, 58] from rfl, show (⟨#[44, 34, 110, 111, 100, 101, 34, 58]⟩ : ByteArray) = baL [44, 34, 110, 111, 100, 101, 34, 58] from rfl, show (⟨#[44, 34, 117, 110, 116, 105, 108, 34, 58]⟩ : ByteArray) = baL [44, 34, 117, 110, 116, 105, 108, 34, 58] from rfl, show (⟨#[125]⟩ : ByteArray) = baL [125] from rfl]
    simp only [← baL_app]
    congr 1
    simp [leaseJ, quoteB]
  have BW := Lib.hid bW
  clear q bW hP e0 e1 e2 s1 s2 s3 s4 s5 s6
  have H0 := Lib.hid C0
  have H1 := Lib.hid C1
  have H2 := Lib.hid C2
  clear C0 C1 C2
  go_enter Tryz.func35, Tryz.ntmps35
  go_wp2_with fail
  go_region_held3 (fun w' => (w'.cell? ⟨w.heap.size, 0, none⟩ = some (.string x.job) ∧ w'.cell? ⟨w.heap.size, 1, none⟩ = some (.string x.node) ∧ w'.cell? ⟨w.heap.size, 2, none⟩ = some (.int .i64 x.til)) ∧ w.heap.size < w'.heap.size ∧ Below W.heap.size W w') (first | assumption | exact ⟨o1.1, o1.2.1, o1.2.2.drew⟩) (first
    | (go_at_call 66; (with_reducible refine (H0.out _).mono ?_); rintro e x0 ⟨rfl, c0⟩; have t0 := jheld3 (W := W) c0 (by assumption))
    | (go_at_call 66; (with_reducible refine (H1.out _).mono ?_); rintro e x1 ⟨rfl, c1⟩; have t1 := jheld3 (W := W) c1 (by assumption))
    | (go_at_call 29; (with_reducible refine (H2.out _ (by assumption)).mono ?_); rintro e x2 ⟨rfl, c2⟩; have t2 := jheld3 (W := W) c2 (by assumption)))
  rename_i s99
  go_wp2
  go_ret
  exact ⟨congrArg (fun z => Ending.returned (Value.string z)) HR.out.symm, below_trans BW.out s99.2.2 BW.out.size⟩
/-! ### tables -/
theorem Tryz.info_str : (Tryz.prog.info? 9).map (fun i => (i.zero, i.size, i.bytes)) = some (some (.string ⟨#[]⟩), 1, 16) := by kernel_rfl
theorem jown_next {B sz n : Nat} {e : TypeId} {v : Value} {xs : List Value} {w w' : World} (h : w.ownsRow B e sz v n xs) (hb : Below w.heap.size w w') : w'.ownsRow B e sz v n xs :=
  h.kept (row := none) ⟨hb.os, hb.tape, hb.output, hb.size, fun k hk _ => hb.block k hk⟩ (by cases v.ownBlock <;> simp)
def strsV (l : List ByteArray) : List Value := l.map Value.string
theorem str_new (w : World) (s : ByteArray) (t : TypeId) : ∀ j u, [Value.string s][j]? = some u → (w.alloc (.cells #[.string s] t)).cell? ((⟨w.heap.size, 0, none⟩ : Addr).add j) = some u := by
  intro j u hj
  match j, hj with
  | 0, hj => simp at hj; subst hj; simp [Addr.add]
theorem strs_at {w : World} {B n : Nat} {v : Value} {l : List ByteArray} (h : w.ownsRow B 9 1 v n (strsV l)) (hn : n = l.length) : ∃ a cap, v = .slice a n cap ∧ ∀ (j : Nat) (hj : j < l.length), ∃ g, a = some ⟨g, 0, none⟩ ∧ g < w.heap.size ∧ l.length ≤ cap ∧ w.cell? ⟨g, j, none⟩ = some (.string l[j]) := by
  subst hn
  rcases h.2 with ⟨rfl, h0⟩ | ⟨g, cap, cur, rfl, hr⟩
  · exact ⟨none, 0, by rw [h0], fun j hj => by omega⟩
  · refine ⟨_, cap, rfl, fun j hj => ⟨g, rfl, (h.lt g rfl).2, ?_, ?_⟩⟩
    · exact hr.2.2.1
    · have e : (strsV l)[j]? = some (.string l[j]) := by simp [strsV, hj]
      have := h.cells (g := g) rfl j _ e
      rwa [addr_add] at this
set_option maxRecDepth 100000 in
set_option maxHeartbeats 4000000 in
theorem printJobs_is (xs : List JobD) (ad : Option Addr) (cap : Nat) (hlen : xs.length ≤ 40) (hok : ∀ x ∈ xs, x.name.size ≤ 16 ∧ small18 x.prio ∧ small18 x.need ∧ small18 x.tries ∧ x.tag.size ≤ 16) (w : World) (hP : Pow10 w) (hm : JobsAt w ad xs) :
    Calls Tryz.prog 30 #[.slice ad xs.length cap, .func (.func 31) #[] #[]] w fun e w' => e = .returned (.string (baL (91 :: listL jobJ xs))) ∧ Below w.heap.size w w' := by
  have HP := Lib.hid hP
  have HM := Lib.hid hm
  have HOK := Lib.hid hok
  obtain ⟨i0, qi, qz0, qz1, qz2⟩ := info_parts' Tryz.info_str
  have Hi := Lib.hid qi
  have Hz0 := Lib.hid qz0
  have Hz1 := Lib.hid qz1
  have Hz2 := Lib.hid qz2
  clear hP hm hok qi qz0 qz1 qz2
  go_enter Tryz.func30, Tryz.ntmps30
  go_wp2
  go_loopw [5, 10] (fun fv iv wr => ∃ i : Nat, iv = .int .i64 (i : Int) ∧ i ≤ xs.length ∧ wr.ownsRow w.heap.size 9 1 fv i (strsV ((xs.take i).map fun x => baL (jobJ x))) ∧ Below w.heap.size w wr) (fun _ iv _ => xs.length - (intOf iv).toNat)
  case atStart => exact ⟨0, rfl, Nat.zero_le _, World.ownsRow_nil _ _ _ _, Below.refl _ _⟩
  case round =>
    obtain ⟨i, rfl, hi, hown, hbr⟩ := hrel
    by_cases h : (i : Int) < (xs.length : Int)
    · have hil : i < xs.length := by omega
      obtain ⟨a, rfl, hal, k0, k1, k2, k3, k4⟩ := jobsAt_next HM.out hbr i hil
      obtain ⟨x, hxi⟩ : ∃ x, xs[i] = x := ⟨_, rfl⟩
      rw [hxi] at k0 k1 k2 k3 k4
      have hx := HOK.out x (hxi ▸ List.getElem_mem hil)
      have bA := below_one wr (.cells #[.string x.name, .int .i64 x.prio, .int .i64 x.need, .int .i64 x.tries, .string x.tag] 51)
      have BA := below_trans hbr bA hbr.size
      have HC := Lib.hid (printJob_is x hx.1 hx.2.1 hx.2.2.1 hx.2.2.2.1 hx.2.2.2.2 _ (HP.out.below BA))
      have hstep : (xs.take (i + 1)).map (fun x => baL (jobJ x)) = (xs.take i).map (fun x => baL (jobJ x)) ++ [baL (jobJ x)] := by
        rw [List.take_succ_eq_append_getElem hil, List.map_append, hxi]; rfl
      have HST := Lib.hid hstep
      have hown1 := jown_next hown bA
      have HB := Lib.hid BA
      clear bA BA hxi hx hstep
      obtain ⟨S, hS⟩ : ∃ S, baL (jobJ x) = S := ⟨_, rfl⟩
      rw [hS] at HC HST
      clear hS
      go_wp2_with fail
      refine HC.out.mono ?_
      rintro r w2 ⟨rfl, b2⟩
      have hown2 := jown_next hown1 b2
      have B2 := below_trans HB.out b2 HB.out.size
      have s2 := B2.size
      clear HC hown hown1 hbr HB b2 hal k0 k1 k2 k3 k4
      go_wp2_with (at_builtin; refine wpList_append_own _ rfl _ _ 102 rfl w.heap.size 9 i0 _ 1 16 Tryz.underlying102 Hi.out Hz0.out Hz1.out Hz2.out rfl (by decide) _ _ _ rfl (hown2.alloc _) ⟨w2.heap.size, 0, none⟩ 1 1 [.string S] rfl rfl ?c1 ?c2 ?c3 ?c4 ?c5 ?_)
      case c1 => exact str_new w2 S _
      case c2 => intro u hu; simp at hu; subst hu; rfl
      case c3 => unfold maxLen; omega
      case c4 => omega
      case c5 => simp; omega
      · intro v3 w3 own3 hg3 _
        have hb3 := (below_trans B2 (below_one w2 _) B2.size).grown hg3 (by simp; omega) (fun k hk' => (hown2.lt k hk').1)
        have own4 : w3.ownsRow w.heap.size 9 1 v3 (i + 1) (strsV ((xs.take (i + 1)).map fun x => baL (jobJ x))) := by rw [HST.out]; unfold strsV; rw [List.map_append]; simpa [strsV] using own3
        clear hown2 B2 s2 own3 hg3
        go_wp2
        go_roundw
        case rel => exact ⟨i + 1, by simp, by omega, own4, hb3⟩
        case measure => simp [intOf]; omega
    · obtain rfl : i = xs.length := by omega
      rw [List.take_length] at hown
      have hl : (xs.map fun x => baL (jobJ x)).length = xs.length := List.length_map _
      obtain ⟨a, cp, rfl, hat⟩ := strs_at hown hl.symm
      have hsz : ∀ y ∈ xs.map (fun x => baL (jobJ x)), y.size ≤ 300 := by
        intro y hy
        obtain ⟨x, hx, rfl⟩ := List.mem_map.1 hy
        rw [baL_size]
        exact jobJ_len (HOK.out x hx)
      have HJ := join_is a cp (xs.map fun x => baL (jobJ x)) (by omega) (fun y hy => Nat.le_trans (hsz y hy) (by omega)) wr hat
      rw [hl] at HJ
      have hmm : (xs.map fun x => baL (jobJ x)).map (·.data.toList) = xs.map jobJ := by rw [List.map_map]; rfl
      rw [hmm] at HJ
      have hjl := join_list jobJ xs
      have hll : (listL jobJ xs).length ≤ xs.length * 301 + 1 := list_len xs (fun x hx => jobJ_len (HOK.out x hx))
      have HR : Hid (baL (91 :: listL jobJ xs) = (⟨#[91]⟩ : ByteArray) ++ baL (Lib.join (xs.map jobJ) [44]) ++ ⟨#[93]⟩) := by
        show _ = _
        rw [← hjl, show (⟨#[91]⟩ : ByteArray) = baL [91] from rfl, show (⟨#[93]⟩ : ByteArray) = baL [93] from rfl, ← baL_app, ← baL_app]
        rfl
      have hjs : (baL (Lib.join (xs.map jobJ) [44])).size ≤ 100000 := by
        rw [baL_size]
        have := congrArg List.length hjl
        rw [List.length_append] at this
        simp only [List.length_cons, List.length_nil] at this
        omega
      have HJ := Lib.hid HJ
      clear hown hat hsz hl hmm hjl hll
      obtain ⟨S, hS⟩ : ∃ S, baL (Lib.join (xs.map jobJ) [44]) = S := ⟨_, rfl⟩
      rw [hS] at HJ HR hjs
      clear hS
      go_wp2_with fail
      refine HJ.out.mono ?_
      rintro e w2 ⟨rfl, b2⟩
      go_wp2
      go_ret
      exact ⟨congrArg (fun z => Ending.returned (Value.string z)) HR.out.symm, below_trans hbr b2 hbr.size⟩
set_option maxRecDepth 100000 in
set_option maxHeartbeats 4000000 in
theorem printNodes_is (xs : List NodeD) (ad : Option Addr) (cap : Nat) (hlen : xs.length ≤ 40) (hok : ∀ x ∈ xs, x.name.size ≤ 16 ∧ small18 x.room ∧ x.zone.size ≤ 16) (w : World) (hP : Pow10 w) (hm : NodesAt w ad xs) :
    Calls Tryz.prog 32 #[.slice ad xs.length cap, .func (.func 33) #[] #[]] w fun e w' => e = .returned (.string (baL (91 :: listL nodeJ xs))) ∧ Below w.heap.size w w' := by
  have HP := Lib.hid hP
  have HM := Lib.hid hm
  have HOK := Lib.hid hok
  obtain ⟨i0, qi, qz0, qz1, qz2⟩ := info_parts' Tryz.info_str
  have Hi := Lib.hid qi
  have Hz0 := Lib.hid qz0
  have Hz1 := Lib.hid qz1
  have Hz2 := Lib.hid qz2
  clear hP hm hok qi qz0 qz1 qz2
  go_enter Tryz.func32, Tryz.ntmps32
  go_wp2
  go_loopw [5, 10] (fun fv iv wr => ∃ i : Nat, iv = .int .i64 (i : Int) ∧ i ≤ xs.length ∧ wr.ownsRow w.heap.size 9 1 fv i (strsV ((xs.take i).map fun x => baL (nodeJ x))) ∧ Below w.heap.size w wr) (fun _ iv _ => xs.length - (intOf iv).toNat)
  case atStart => exact ⟨0, rfl, Nat.zero_le _, World.ownsRow_nil _ _ _ _, Below.refl _ _⟩
  case round =>
    obtain ⟨i, rfl, hi, hown, hbr⟩ := hrel
    by_cases h : (i : Int) < (xs.length : Int)
    · have hil : i < xs.length := by omega
      obtain ⟨a, rfl, hal, k0, k1, k2⟩ := nodesAt_next HM.out hbr i hil
      obtain ⟨x, hxi⟩ : ∃ x, xs[i] = x := ⟨_, rfl⟩
      rw [hxi] at k0 k1 k2
      have hx := HOK.out x (hxi ▸ List.getElem_mem hil)
      have bA := below_one wr (.cells #[.string x.name, .int .i64 x.room, .string x.zone] 54)
      have BA := below_trans hbr bA hbr.size
      have HC := Lib.hid (printNode_is x hx.1 hx.2.1 hx.2.2 _ (HP.out.below BA))
      have hstep : (xs.take (i + 1)).map (fun x => baL (nodeJ x)) = (xs.take i).map (fun x => baL (nodeJ x)) ++ [baL (nodeJ x)] := by
        rw [List.take_succ_eq_append_getElem hil, List.map_append, hxi]; rfl
      have HST := Lib.hid hstep
      have hown1 := jown_next hown bA
      have HB := Lib.hid BA
      clear bA BA hxi hx hstep
      obtain ⟨S, hS⟩ : ∃ S, baL (nodeJ x) = S := ⟨_, rfl⟩
      rw [hS] at HC HST
      clear hS
      go_wp2_with fail
      refine HC.out.mono ?_
      rintro r w2 ⟨rfl, b2⟩
      have hown2 := jown_next hown1 b2
      have B2 := below_trans HB.out b2 HB.out.size
      have s2 := B2.size
      clear HC hown hown1 hbr HB b2 hal k0 k1 k2
      go_wp2_with (at_builtin; refine wpList_append_own _ rfl _ _ 102 rfl w.heap.size 9 i0 _ 1 16 Tryz.underlying102 Hi.out Hz0.out Hz1.out Hz2.out rfl (by decide) _ _ _ rfl (hown2.alloc _) ⟨w2.heap.size, 0, none⟩ 1 1 [.string S] rfl rfl ?c1 ?c2 ?c3 ?c4 ?c5 ?_)
      case c1 => exact str_new w2 S _
      case c2 => intro u hu; simp at hu; subst hu; rfl
      case c3 => unfold maxLen; omega
      case c4 => omega
      case c5 => simp; omega
      · intro v3 w3 own3 hg3 _
        have hb3 := (below_trans B2 (below_one w2 _) B2.size).grown hg3 (by simp; omega) (fun k hk' => (hown2.lt k hk').1)
        have own4 : w3.ownsRow w.heap.size 9 1 v3 (i + 1) (strsV ((xs.take (i + 1)).map fun x => baL (nodeJ x))) := by rw [HST.out]; unfold strsV; rw [List.map_append]; simpa [strsV] using own3
        clear hown2 B2 s2 own3 hg3
        go_wp2
        go_roundw
        case rel => exact ⟨i + 1, by simp, by omega, own4, hb3⟩
        case measure => simp [intOf]; omega
    · obtain rfl : i = xs.length := by omega
      rw [List.take_length] at hown
      have hl : (xs.map fun x => baL (nodeJ x)).length = xs.length := List.length_map _
      obtain ⟨a, cp, rfl, hat⟩ := strs_at hown hl.symm
      have hsz : ∀ y ∈ xs.map (fun x => baL (nodeJ x)), y.size ≤ 300 := by
        intro y hy
        obtain ⟨x, hx, rfl⟩ := List.mem_map.1 hy
        rw [baL_size]
        exact nodeJ_len (HOK.out x hx)
      have HJ := join_is a cp (xs.map fun x => baL (nodeJ x)) (by omega) (fun y hy => Nat.le_trans (hsz y hy) (by omega)) wr hat
      rw [hl] at HJ
      have hmm : (xs.map fun x => baL (nodeJ x)).map (·.data.toList) = xs.map nodeJ := by rw [List.map_map]; rfl
      rw [hmm] at HJ
      have hjl := join_list nodeJ xs
      have hll : (listL nodeJ xs).length ≤ xs.length * 301 + 1 := list_len xs (fun x hx => nodeJ_len (HOK.out x hx))
      have HR : Hid (baL (91 :: listL nodeJ xs) = (⟨#[91]⟩ : ByteArray) ++ baL (Lib.join (xs.map nodeJ) [44]) ++ ⟨#[93]⟩) := by
        show _ = _
        rw [← hjl, show (⟨#[91]⟩ : ByteArray) = baL [91] from rfl, show (⟨#[93]⟩ : ByteArray) = baL [93] from rfl, ← baL_app, ← baL_app]
        rfl
      have hjs : (baL (Lib.join (xs.map nodeJ) [44])).size ≤ 100000 := by
        rw [baL_size]
        have := congrArg List.length hjl
        rw [List.length_append] at this
        simp only [List.length_cons, List.length_nil] at this
        omega
      have HJ := Lib.hid HJ
      clear hown hat hsz hl hmm hjl hll
      obtain ⟨S, hS⟩ : ∃ S, baL (Lib.join (xs.map nodeJ) [44]) = S := ⟨_, rfl⟩
      rw [hS] at HJ HR hjs
      clear hS
      go_wp2_with fail
      refine HJ.out.mono ?_
      rintro e w2 ⟨rfl, b2⟩
      go_wp2
      go_ret
      exact ⟨congrArg (fun z => Ending.returned (Value.string z)) HR.out.symm, below_trans hbr b2 hbr.size⟩
set_option maxRecDepth 100000 in
set_option maxHeartbeats 4000000 in
theorem printLeases_is (xs : List LeaseD) (ad : Option Addr) (cap : Nat) (hlen : xs.length ≤ 40) (hok : ∀ x ∈ xs, x.job.size ≤ 16 ∧ x.node.size ≤ 16 ∧ small18 x.til) (w : World) (hP : Pow10 w) (hm : LeasesAt w ad xs) :
    Calls Tryz.prog 34 #[.slice ad xs.length cap, .func (.func 35) #[] #[]] w fun e w' => e = .returned (.string (baL (91 :: listL leaseJ xs))) ∧ Below w.heap.size w w' := by
  have HP := Lib.hid hP
  have HM := Lib.hid hm
  have HOK := Lib.hid hok
  obtain ⟨i0, qi, qz0, qz1, qz2⟩ := info_parts' Tryz.info_str
  have Hi := Lib.hid qi
  have Hz0 := Lib.hid qz0
  have Hz1 := Lib.hid qz1
  have Hz2 := Lib.hid qz2
  clear hP hm hok qi qz0 qz1 qz2
  go_enter Tryz.func34, Tryz.ntmps34
  go_wp2
  go_loopw [5, 10] (fun fv iv wr => ∃ i : Nat, iv = .int .i64 (i : Int) ∧ i ≤ xs.length ∧ wr.ownsRow w.heap.size 9 1 fv i (strsV ((xs.take i).map fun x => baL (leaseJ x))) ∧ Below w.heap.size w wr) (fun _ iv _ => xs.length - (intOf iv).toNat)
  case atStart => exact ⟨0, rfl, Nat.zero_le _, World.ownsRow_nil _ _ _ _, Below.refl _ _⟩
  case round =>
    obtain ⟨i, rfl, hi, hown, hbr⟩ := hrel
    by_cases h : (i : Int) < (xs.length : Int)
    · have hil : i < xs.length := by omega
      obtain ⟨a, rfl, hal, k0, k1, k2⟩ := leasesAt_next HM.out hbr i hil
      obtain ⟨x, hxi⟩ : ∃ x, xs[i] = x := ⟨_, rfl⟩
      rw [hxi] at k0 k1 k2
      have hx := HOK.out x (hxi ▸ List.getElem_mem hil)
      have bA := below_one wr (.cells #[.string x.job, .string x.node, .int .i64 x.til] 56)
      have BA := below_trans hbr bA hbr.size
      have HC := Lib.hid (printLease_is x hx.1 hx.2.1 hx.2.2 _ (HP.out.below BA))
      have hstep : (xs.take (i + 1)).map (fun x => baL (leaseJ x)) = (xs.take i).map (fun x => baL (leaseJ x)) ++ [baL (leaseJ x)] := by
        rw [List.take_succ_eq_append_getElem hil, List.map_append, hxi]; rfl
      have HST := Lib.hid hstep
      have hown1 := jown_next hown bA
      have HB := Lib.hid BA
      clear bA BA hxi hx hstep
      obtain ⟨S, hS⟩ : ∃ S, baL (leaseJ x) = S := ⟨_, rfl⟩
      rw [hS] at HC HST
      clear hS
      go_wp2_with fail
      refine HC.out.mono ?_
      rintro r w2 ⟨rfl, b2⟩
      have hown2 := jown_next hown1 b2
      have B2 := below_trans HB.out b2 HB.out.size
      have s2 := B2.size
      clear HC hown hown1 hbr HB b2 hal k0 k1 k2
      go_wp2_with (at_builtin; refine wpList_append_own _ rfl _ _ 102 rfl w.heap.size 9 i0 _ 1 16 Tryz.underlying102 Hi.out Hz0.out Hz1.out Hz2.out rfl (by decide) _ _ _ rfl (hown2.alloc _) ⟨w2.heap.size, 0, none⟩ 1 1 [.string S] rfl rfl ?c1 ?c2 ?c3 ?c4 ?c5 ?_)
      case c1 => exact str_new w2 S _
      case c2 => intro u hu; simp at hu; subst hu; rfl
      case c3 => unfold maxLen; omega
      case c4 => omega
      case c5 => simp; omega
      · intro v3 w3 own3 hg3 _
        have hb3 := (below_trans B2 (below_one w2 _) B2.size).grown hg3 (by simp; omega) (fun k hk' => (hown2.lt k hk').1)
        have own4 : w3.ownsRow w.heap.size 9 1 v3 (i + 1) (strsV ((xs.take (i + 1)).map fun x => baL (leaseJ x))) := by rw [HST.out]; unfold strsV; rw [List.map_append]; simpa [strsV] using own3
        clear hown2 B2 s2 own3 hg3
        go_wp2
        go_roundw
        case rel => exact ⟨i + 1, by simp, by omega, own4, hb3⟩
        case measure => simp [intOf]; omega
    · obtain rfl : i = xs.length := by omega
      rw [List.take_length] at hown
      have hl : (xs.map fun x => baL (leaseJ x)).length = xs.length := List.length_map _
      obtain ⟨a, cp, rfl, hat⟩ := strs_at hown hl.symm
      have hsz : ∀ y ∈ xs.map (fun x => baL (leaseJ x)), y.size ≤ 300 := by
        intro y hy
        obtain ⟨x, hx, rfl⟩ := List.mem_map.1 hy
        rw [baL_size]
        exact leaseJ_len (HOK.out x hx)
      have HJ := join_is a cp (xs.map fun x => baL (leaseJ x)) (by omega) (fun y hy => Nat.le_trans (hsz y hy) (by omega)) wr hat
      rw [hl] at HJ
      have hmm : (xs.map fun x => baL (leaseJ x)).map (·.data.toList) = xs.map leaseJ := by rw [List.map_map]; rfl
      rw [hmm] at HJ
      have hjl := join_list leaseJ xs
      have hll : (listL leaseJ xs).length ≤ xs.length * 301 + 1 := list_len xs (fun x hx => leaseJ_len (HOK.out x hx))
      have HR : Hid (baL (91 :: listL leaseJ xs) = (⟨#[91]⟩ : ByteArray) ++ baL (Lib.join (xs.map leaseJ) [44]) ++ ⟨#[93]⟩) := by
        show _ = _
        rw [← hjl, show (⟨#[91]⟩ : ByteArray) = baL [91] from rfl, show (⟨#[93]⟩ : ByteArray) = baL [93] from rfl, ← baL_app, ← baL_app]
        rfl
      have hjs : (baL (Lib.join (xs.map leaseJ) [44])).size ≤ 100000 := by
        rw [baL_size]
        have := congrArg List.length hjl
        rw [List.length_append] at this
        simp only [List.length_cons, List.length_nil] at this
        omega
      have HJ := Lib.hid HJ
      clear hown hat hsz hl hmm hjl hll
      obtain ⟨S, hS⟩ : ∃ S, baL (Lib.join (xs.map leaseJ) [44]) = S := ⟨_, rfl⟩
      rw [hS] at HJ HR hjs
      clear hS
      go_wp2_with fail
      refine HJ.out.mono ?_
      rintro e w2 ⟨rfl, b2⟩
      go_wp2
      go_ret
      exact ⟨congrArg (fun z => Ending.returned (Value.string z)) HR.out.symm, below_trans hbr b2 hbr.size⟩
/-! ### the whole -/
/-- What Print answers. -/
noncomputable def prR (s : StD) : ByteArray × Nat := if checkE V8 s = 0 then (baL (stJ s), 0) else (⟨#[]⟩, checkE V8 s)
theorem pr_ok {s : StD} (h : checkE V8 s = 0) : prR s = (baL (stJ s), 0) := by unfold prR; rw [if_pos h]
theorem pr_no {s : StD} (h : checkE V8 s ≠ 0) : prR s = (⟨#[]⟩, checkE V8 s) := by unfold prR; rw [if_neg h]
set_option maxRecDepth 100000 in
set_option maxHeartbeats 8000000 in
theorem print_any (s : StD) (aj an al : Option Addr) (cj cn cl : Nat) (hw : wState s) (w : World) (hT : Tabs w) (hP : Pow10 w) (hmj : JobsAt w aj s.jobs) (hmn : NodesAt w an s.nodes) (hml : LeasesAt w al s.leases) :
    Calls Tryz.prog 11 #[.agg #[.int .i64 s.rev, .slice aj s.jobs.length cj, .slice an s.nodes.length cn, .slice al s.leases.length cl]] w fun e w' => e = .returned (.tuple #[.string (prR s).1, .int .i64 (prR s).2]) ∧ Below w.heap.size w w' := by
  obtain ⟨W, hW⟩ : ∃ W, w.alloc (.cells #[.int .i64 s.rev, .slice aj s.jobs.length cj, .slice an s.nodes.length cn, .slice al s.leases.length cl] 26) = W := ⟨_, rfl⟩
  have q := box_new4 w (.int .i64 s.rev) (.slice aj s.jobs.length cj) (.slice an s.nodes.length cn) (.slice al s.leases.length cl) 26
  have bW := below_one w (.cells #[.int .i64 s.rev, .slice aj s.jobs.length cj, .slice an s.nodes.length cn, .slice al s.leases.length cl] 26)
  rw [hW] at q bW
  have mj := jobsAt_next hmj bW
  have mn := nodesAt_next hmn bW
  have ml := leasesAt_next hml bW
  have es : (⟨s.rev, s.jobs, s.nodes, s.leases⟩ : StD) = s := rfl
  have HC := check_any s.rev aj an al cj cn cl s.jobs s.nodes s.leases hw W (hT.below bW) mj mn ml
  rw [es] at HC
  have HC := Lib.hid HC
  have hPW := hP.below bW
  have d0 := q.1 0 _ rfl
  have d1 := q.1 1 _ rfl
  have d2 := q.1 2 _ rfl
  have d3 := q.1 3 _ rfl
  have hq := q.2
  have BW := Lib.hid bW
  clear hmj hmn hml hT hP q bW es
  by_cases hc : checkE V8 s = 0
  · rw [pr_ok hc]
    have hv := (check_zero V8 s).1 hc
    rw [hc] at HC
    have HV := Lib.hid hv
    have HM := Lib.hid (And.intro hPW (And.intro mj (And.intro mn ml)))
    clear hPW mj mn ml hc hv hw
    go_enter Tryz.func11, Tryz.ntmps11
    go_wp2_with fail
    refine HC.out.mono ?_
    rintro e W1 ⟨rfl, b1⟩
    have o1 : (W1.cell? ⟨w.heap.size, 0, none⟩ = some (.int .i64 s.rev) ∧ W1.cell? ⟨w.heap.size, 1, none⟩ = some (.slice aj s.jobs.length cj) ∧ W1.cell? ⟨w.heap.size, 2, none⟩ = some (.slice an s.nodes.length cn) ∧ W1.cell? ⟨w.heap.size, 3, none⟩ = some (.slice al s.leases.length cl)) ∧ w.heap.size < W1.heap.size ∧ Below W1.heap.size W1 W1 := ⟨⟨by rw [b1.cell (p := ⟨w.heap.size, 0, none⟩) hq]; exact d0, by rw [b1.cell (p := ⟨w.heap.size, 1, none⟩) hq]; exact d1, by rw [b1.cell (p := ⟨w.heap.size, 2, none⟩) hq]; exact d2, by rw [b1.cell (p := ⟨w.heap.size, 3, none⟩) hq]; exact d3⟩, Nat.lt_of_lt_of_le hq b1.size, Below.refl _ _⟩
    have B1 := Lib.hid (below_trans BW.out b1 BW.out.size)
    have hPW := HM.out.1.below b1
    have mj := jobsAt_next HM.out.2.1 b1
    have mn := nodesAt_next HM.out.2.2.1 b1
    have ml := leasesAt_next HM.out.2.2.2 b1
    have hv := HV.out
    have hr18 : small18 s.rev := by have := hv.1; exact ⟨by omega, by omega⟩
    have C0 : ∀ w', (w'.cell? ⟨w.heap.size, 0, none⟩ = some (.int .i64 s.rev) ∧ w'.cell? ⟨w.heap.size, 1, none⟩ = some (.slice aj s.jobs.length cj) ∧ w'.cell? ⟨w.heap.size, 2, none⟩ = some (.slice an s.nodes.length cn) ∧ w'.cell? ⟨w.heap.size, 3, none⟩ = some (.slice al s.leases.length cl)) ∧ w.heap.size < w'.heap.size ∧ Below W1.heap.size W1 w' → Calls Tryz.prog 29 #[.int .i64 s.rev] w' fun e w2 => e = .returned (.string (baL (digZ s.rev))) ∧ Below w'.heap.size w' w2 := fun w' h => itoa_is (hPW.below h.2.2) s.rev (i64_of hr18).1 (i64_of hr18).2
    have C1 : ∀ w', (w'.cell? ⟨w.heap.size, 0, none⟩ = some (.int .i64 s.rev) ∧ w'.cell? ⟨w.heap.size, 1, none⟩ = some (.slice aj s.jobs.length cj) ∧ w'.cell? ⟨w.heap.size, 2, none⟩ = some (.slice an s.nodes.length cn) ∧ w'.cell? ⟨w.heap.size, 3, none⟩ = some (.slice al s.leases.length cl)) ∧ w.heap.size < w'.heap.size ∧ Below W1.heap.size W1 w' → Calls Tryz.prog 30 #[.slice aj s.jobs.length cj, .func (.func 31) #[] #[]] w' fun e w2 => e = .returned (.string (baL (91 :: listL jobJ s.jobs))) ∧ Below w'.heap.size w' w2 := fun w' h => printJobs_is s.jobs aj cj (by have := hv.2.1; omega) (fun x hx => valid_job hv hx) w' (hPW.below h.2.2) (jobsAt_next mj h.2.2)
    have C2 : ∀ w', (w'.cell? ⟨w.heap.size, 0, none⟩ = some (.int .i64 s.rev) ∧ w'.cell? ⟨w.heap.size, 1, none⟩ = some (.slice aj s.jobs.length cj) ∧ w'.cell? ⟨w.heap.size, 2, none⟩ = some (.slice an s.nodes.length cn) ∧ w'.cell? ⟨w.heap.size, 3, none⟩ = some (.slice al s.leases.length cl)) ∧ w.heap.size < w'.heap.size ∧ Below W1.heap.size W1 w' → Calls Tryz.prog 32 #[.slice an s.nodes.length cn, .func (.func 33) #[] #[]] w' fun e w2 => e = .returned (.string (baL (91 :: listL nodeJ s.nodes))) ∧ Below w'.heap.size w' w2 := fun w' h => printNodes_is s.nodes an cn (by have := hv.2.1; omega) (fun x hx => valid_node hv hx) w' (hPW.below h.2.2) (nodesAt_next mn h.2.2)
    have C3 : ∀ w', (w'.cell? ⟨w.heap.size, 0, none⟩ = some (.int .i64 s.rev) ∧ w'.cell? ⟨w.heap.size, 1, none⟩ = some (.slice aj s.jobs.length cj) ∧ w'.cell? ⟨w.heap.size, 2, none⟩ = some (.slice an s.nodes.length cn) ∧ w'.cell? ⟨w.heap.size, 3, none⟩ = some (.slice al s.leases.length cl)) ∧ w.heap.size < w'.heap.size ∧ Below W1.heap.size W1 w' → Calls Tryz.prog 34 #[.slice al s.leases.length cl, .func (.func 35) #[] #[]] w' fun e w2 => e = .returned (.string (baL (91 :: listL leaseJ s.leases))) ∧ Below w'.heap.size w' w2 := fun w' h => printLeases_is s.leases al cl (by have := hv.2.1; omega) (fun x hx => valid_lease hv hx) w' (hPW.below h.2.2) (leasesAt_next ml h.2.2)
    have z0 := dg_size s.rev hr18
    have z1 : (baL (91 :: listL jobJ s.jobs)).size ≤ 20000 := by
      rw [baL_size, List.length_cons]
      have := list_len (g := jobJ) (k := 300) s.jobs (fun j hm => jobJ_len (valid_job hv hm))
      have := hv.2.1
      omega
    have z2 : (baL (91 :: listL nodeJ s.nodes)).size ≤ 20000 := by
      rw [baL_size, List.length_cons]
      have := list_len (g := nodeJ) (k := 300) s.nodes (fun j hm => nodeJ_len (valid_node hv hm))
      have := hv.2.1
      omega
    have z3 : (baL (91 :: listL leaseJ s.leases)).size ≤ 20000 := by
      rw [baL_size, List.length_cons]
      have := list_len (g := leaseJ) (k := 300) s.leases (fun j hm => leaseJ_len (valid_lease hv hm))
      have := hv.2.1
      omega
    obtain ⟨P0, e0⟩ : ∃ P, baL (digZ s.rev) = P := ⟨_, rfl⟩
    obtain ⟨P1, e1⟩ : ∃ P, baL (91 :: listL jobJ s.jobs) = P := ⟨_, rfl⟩
    obtain ⟨P2, e2⟩ : ∃ P, baL (91 :: listL nodeJ s.nodes) = P := ⟨_, rfl⟩
    obtain ⟨P3, e3⟩ : ∃ P, baL (91 :: listL leaseJ s.leases) = P := ⟨_, rfl⟩
    rw [e0] at C0 z0
    rw [e1] at C1 z1
    rw [e2] at C2 z2
    rw [e3] at C3 z3
    obtain ⟨A1, y1⟩ : ∃ A, (⟨#[123, 34, 114, 101, 118, 34, 58]⟩ : ByteArray) ++ P0 = A := ⟨_, rfl⟩
    have r1 : ¬ (9223372036854775807 < 7 + P0.size) ∧ A1.size = 7 + P0.size := by
      have e : A1.size = 7 + P0.size := by rw [← y1, ByteArray.size_append]; rfl
      exact ⟨by omega, e⟩
    obtain ⟨r1, s1⟩ := r1
    obtain ⟨A2, y2⟩ : ∃ A, A1 ++ (⟨#[44, 34, 106, 111, 98, 115, 34, 58]⟩ : ByteArray) = A := ⟨_, rfl⟩
    have r2 : ¬ (9223372036854775807 < A1.size + 8) ∧ A2.size = A1.size + 8 := by
      have e : A2.size = A1.size + 8 := by rw [← y2, ByteArray.size_append]; rfl
      exact ⟨by omega, e⟩
    obtain ⟨r2, s2⟩ := r2
    obtain ⟨A3, y3⟩ : ∃ A, A2 ++ P1 = A := ⟨_, rfl⟩
    have r3 : ¬ (9223372036854775807 < A2.size + P1.size) ∧ A3.size = A2.size + P1.size := by
      have e : A3.size = A2.size + P1.size := by rw [← y3, ByteArray.size_append]
      exact ⟨by omega, e⟩
    obtain ⟨r3, s3⟩ := r3
    obtain ⟨A4, y4⟩ : ∃ A, A3 ++ (⟨#[44, 34, 110, 111, 100, 101, 115, 34, 58]⟩ : ByteArray) = A := ⟨_, rfl⟩
    have r4 : ¬ (9223372036854775807 < A3.size + 9) ∧ A4.size = A3.size + 9 := by
      have e : A4.size = A3.size + 9 := by rw [← y4, ByteArray.size_append]; rfl
      exact ⟨by omega, e⟩
    obtain ⟨r4, s4⟩ := r4
    obtain ⟨A5, y5⟩ : ∃ A, A4 ++ P2 = A := ⟨_, rfl⟩
    have r5 : ¬ (9223372036854775807 < A4.size + P2.size) ∧ A5.size = A4.size + P2.size := by
      have e : A5.size = A4.size + P2.size := by rw [← y5, ByteArray.size_append]
      exact ⟨by omega, e⟩
    obtain ⟨r5, s5⟩ := r5
    obtain ⟨A6, y6⟩ : ∃ A, A5 ++ (⟨#[44, 34, 108, 101, 97, 115, 101, 115, 34, 58]⟩ : ByteArray) = A := ⟨_, rfl⟩
    have r6 : ¬ (9223372036854775807 < A5.size + 10) ∧ A6.size = A5.size + 10 := by
      have e : A6.size = A5.size + 10 := by rw [← y6, ByteArray.size_append]; rfl
      exact ⟨by omega, e⟩
    obtain ⟨r6, s6⟩ := r6
    obtain ⟨A7, y7⟩ : ∃ A, A6 ++ P3 = A := ⟨_, rfl⟩
    have r7 : ¬ (9223372036854775807 < A6.size + P3.size) ∧ A7.size = A6.size + P3.size := by
      have e : A7.size = A6.size + P3.size := by rw [← y7, ByteArray.size_append]
      exact ⟨by omega, e⟩
    obtain ⟨r7, s7⟩ := r7
    obtain ⟨A8, y8⟩ : ∃ A, A7 ++ (⟨#[125]⟩ : ByteArray) = A := ⟨_, rfl⟩
    have r8 : ¬ (9223372036854775807 < A7.size + 1) ∧ A8.size = A7.size + 1 := by
      have e : A8.size = A7.size + 1 := by rw [← y8, ByteArray.size_append]; rfl
      exact ⟨by omega, e⟩
    obtain ⟨r8, s8⟩ := r8
    have HR : Hid (baL (stJ s) = A8) := by
      show _ = _
      rw [← y8, ← y7, ← y6, ← y5, ← y4, ← y3, ← y2, ← y1]
      rw [← e0, ← e1, ← e2, ← e3]
      simp only [show (⟨#[123, 34, 114, 101, 118, 34, 58]⟩ : ByteArray) = baL [123, 34, 114, 101, 118, 34, 58] from rfl, show (⟨#[44, 34, 106, 111, 98, 115, 34, 58]⟩ : ByteArray) = baL [44, 34, 106, 111, 98, 115, 34, 58] from rfl, show (⟨#[44, 34, 110, 111, 100, 101, 115, 34, 58]⟩ : ByteArray) = baL [44, 34, 110, 111, 100, 101, 115, 34, 58] from rfl, show (⟨#[44, 34, 108, 101, 97, 115, 101, 115, 34, 58]⟩ : ByteArray) = baL [44, 34, 108, 101, 97, 115, 101, 115, 34, 58] from rfl, show (⟨#[125]⟩ : ByteArray) = baL [125] from rfl]
      simp only [← baL_app]
      congr 1
      simp [stJ]
    have H0 := Lib.hid C0
    have H1 := Lib.hid C1
    have H2 := Lib.hid C2
    have H3 := Lib.hid C3
    clear C0 C1 C2 C3 e0 e1 e2 e3 hPW mj mn ml hv hr18 d0 d1 d2 d3 b1 HM HC HV s1 s2 s3 s4 s5 s6 s7 s8
    go_wp2_with fail
    go_region_held3 (fun w' => (w'.cell? ⟨w.heap.size, 0, none⟩ = some (.int .i64 s.rev) ∧ w'.cell? ⟨w.heap.size, 1, none⟩ = some (.slice aj s.jobs.length cj) ∧ w'.cell? ⟨w.heap.size, 2, none⟩ = some (.slice an s.nodes.length cn) ∧ w'.cell? ⟨w.heap.size, 3, none⟩ = some (.slice al s.leases.length cl)) ∧ w.heap.size < w'.heap.size ∧ Below W1.heap.size W1 w') (first | assumption | exact ⟨o1.1, o1.2.1, o1.2.2.drew⟩) (first
      | (go_at_call 29; (with_reducible refine (H0.out _ (by assumption)).mono ?_); rintro e x0 ⟨rfl, c0⟩; have t0 := jheld4 (W := W1) c0 (by assumption))
      | (go_at_call 30; (with_reducible refine (H1.out _ (by assumption)).mono ?_); rintro e x1 ⟨rfl, c1⟩; have t1 := jheld4 (W := W1) c1 (by assumption))
      | (go_at_call 32; (with_reducible refine (H2.out _ (by assumption)).mono ?_); rintro e x2 ⟨rfl, c2⟩; have t2 := jheld4 (W := W1) c2 (by assumption))
      | (go_at_call 34; (with_reducible refine (H3.out _ (by assumption)).mono ?_); rintro e x3 ⟨rfl, c3⟩; have t3 := jheld4 (W := W1) c3 (by assumption)))
    rename_i s99
    go_wp2
    go_ret2
    exact ⟨congrArg (fun z => Ending.returned (Value.tuple #[Value.string z, Value.int .i64 0])) HR.out.symm, below_trans B1.out s99.2.2 B1.out.size⟩
  · rw [pr_no hc]
    obtain ⟨R, hR⟩ : ∃ R, checkE V8 s = R := ⟨_, rfl⟩
    rw [hR] at HC hc ⊢
    have hne : ((R : Int) != 0) = true := by simp; omega
    clear hR hPW mj mn ml hw
    go_enter Tryz.func11, Tryz.ntmps11
    go_wp2_with fail
    refine HC.out.mono ?_
    rintro e W1 ⟨rfl, b1⟩
    go_wp2
    go_ret2
    exact ⟨rfl, below_trans BW.out b1 BW.out.size⟩
end Go.Proofs.YthbgaphidojneaaGreatDoor
