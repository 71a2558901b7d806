/- Package json's Parse. -/
import Derived.Test.YthbgaphidojneaaGreatDoorJsRow
import Derived.Test.YthbgaphidojneaaGreatDoorPkWi4
namespace Go.Proofs.YthbgaphidojneaaGreatDoor
open Go.RowKit
/-- A state's rows, owned from a block on. -/
def JOwn (B : Nat) (aj an al : Option Addr) (cj cn cl : Nat) (t : StD) (w : World) : Prop :=
  w.ownsRow B 51 5 (.slice aj t.jobs.length cj) t.jobs.length (cJobs t.jobs) ∧ w.ownsRow B 54 3 (.slice an t.nodes.length cn) t.nodes.length (cNodes t.nodes) ∧ w.ownsRow B 56 3 (.slice al t.leases.length cl) t.leases.length (cLeases t.leases)
theorem jown_at {B : Nat} {aj an al : Option Addr} {cj cn cl : Nat} {t : StD} {w : World} (h : JOwn B aj an al cj cn cl t w) : JobsAt w aj t.jobs ∧ NodesAt w an t.nodes ∧ LeasesAt w al t.leases := ⟨ownJobs h.1 rfl, ownNodes h.2.1 rfl, ownLeases h.2.2 rfl⟩
theorem jown_below {B : Nat} {aj an al : Option Addr} {cj cn cl : Nat} {t : StD} {w w' : World} (h : JOwn B aj an al cj cn cl t w) (hb : Below w.heap.size w w') : JOwn B aj an al cj cn cl t w' := ⟨own_next h.1 hb, own_next h.2.1 hb, own_next h.2.2 hb⟩
theorem jown_low {B B' : Nat} {aj an al : Option Addr} {cj cn cl : Nat} {t : StD} {w : World} (h : JOwn B aj an al cj cn cl t w) (hb : B' ≤ B) : JOwn B' aj an al cj cn cl t w := ⟨ownsRow_low h.1 hb, ownsRow_low h.2.1 hb, ownsRow_low h.2.2 hb⟩
theorem jown_set {B b : Nat} {aj an al : Option Addr} {cj cn cl : Nat} {t : StD} {w : World} (h : JOwn B aj an al cj cn cl t w) (hb : b < B) (j : Nat) (u : Value) : JOwn B aj an al cj cn cl t (w.setCell ⟨b, j, none⟩ u) := ⟨own_set h.1 hb j u, own_set h.2.1 hb j u, own_set h.2.2 hb j u⟩
theorem own_rd {B b n sz : Nat} {e : TypeId} {v : Value} {xs : List Value} {w w' : World} (h : w.ownsRow B e sz v n xs) (hg : w.grownBy w' (some b)) (hb : b < B) : w'.ownsRow B e sz v n xs := h.kept hg (by
  cases hv : Value.ownBlock _ with
  | none => exact .inl rfl
  | some kk =>
    right
    have := (h.lt kk hv).1
    simp; omega)
def RdS (b : Nat) (s : StD) (w : World) (e : Ending) (w' : World) : Prop := ∃ aj an al cj cn cl, e = .returned (.agg #[.int .i64 s.rev, .slice aj s.jobs.length cj, .slice an s.nodes.length cn, .slice al s.leases.length cl]) ∧ JOwn w.heap.size aj an al cj cn cl s w' ∧ w.grownBy w' (some b)
set_option maxRecDepth 100000 in
set_option maxHeartbeats 4000000 in
theorem rdState_is {b : Nat} {l : List UInt8} (hl : l.length ≤ 60000) (w : World) (h : RdAt b l w) (hE : JEnv b w) :
    Calls Tryz.prog 17 #[.pointer (some ⟨b, 0, none⟩)] w (RdS b (stQ l).1 w) := by
  have hmf : ∀ (fn : Fn) (first cap : Array Value) (w : World), (Instr.makeFunc fn first cap).run Tryz.prog w = .ok (.func fn first cap) w := fun _ _ _ _ => rfl
  have hbw := rd_lt h
  have s0 := qst_new (t := 26) #[.int .i64 0, .slice none 0 0, .slice none 0 0, .slice none 0 0] h hE
  have k0 := num_short l
  have k1 := (rowsQ_len jobQ_short (numP l).2).1
  have k2 := (rowsQ_len nodeQ_short (rowsQ jobQ (numP l).2).2).1
  unfold stQ
  dsimp only
  have S0 := Lib.hid s0
  have H0 := Lib.hid (number_is' hl _ s0.1 s0.2.2.2.2.2)
  have H1 : Hid (∀ w', RdAt b (numP l).2 w' → JEnv b w' → Calls Tryz.prog 53 #[.pointer (some ⟨b, 0, none⟩), .func (.func 54) #[.pointer (some ⟨b, 0, none⟩)] #[]] w' (RwsJob b (rowsQ jobQ (numP l).2) w')) := fun w' a c => rdJobs_is (by omega) w' a c
  have H2 : Hid (∀ w', RdAt b (rowsQ jobQ (numP l).2).2 w' → JEnv b w' → Calls Tryz.prog 55 #[.pointer (some ⟨b, 0, none⟩), .func (.func 56) #[.pointer (some ⟨b, 0, none⟩)] #[]] w' (RwsNode b (rowsQ nodeQ (rowsQ jobQ (numP l).2).2) w')) := fun w' a c => rdNodes_is (by omega) w' a c
  have H3 : Hid (∀ w', RdAt b (rowsQ nodeQ (rowsQ jobQ (numP l).2).2).2 w' → JEnv b w' → Calls Tryz.prog 57 #[.pointer (some ⟨b, 0, none⟩), .func (.func 58) #[.pointer (some ⟨b, 0, none⟩)] #[]] w' (RwsLease b (rowsQ leaseQ (rowsQ nodeQ (rowsQ jobQ (numP l).2).2).2) w')) := fun w' a c => rdLeases_is (by omega) w' a c
  clear s0 h hE k0 k1 k2
  generalize rowsQ leaseQ (rowsQ nodeQ (rowsQ jobQ (numP l).2).2).2 = R3 at H3 ⊢
  generalize rowsQ nodeQ (rowsQ jobQ (numP l).2).2 = R2 at H2 H3 ⊢
  generalize rowsQ jobQ (numP l).2 = R1 at H1 H2 ⊢
  generalize numP l = R0 at H0 H1 ⊢
  obtain ⟨n, m0⟩ := R0
  obtain ⟨x1, m1⟩ := R1
  obtain ⟨x2, m2⟩ := R2
  obtain ⟨x3, m3⟩ := R3
  dsimp only at H0 H1 H2 H3 ⊢
  go_enter Tryz.func17, Tryz.ntmps17
  go_wp2_with fail
  refine H0.out.mono ?_
  rintro e w1 ⟨rfl, g0, o0⟩
  have S1 := Lib.hid (qst_call S0.out o0 g0)
  have z1 : w.heap.size + 1 ≤ w1.heap.size := by have := g0.size; rw [World.size_alloc] at this; exact this
  have C1 := Lib.hid (H1.out w1 S1.out.1 S1.out.2.2.2.2.2)
  clear g0 o0 S0 H0 H1
  go_wp2_with fail
  refine C1.out.mono ?_
  rintro e w2 ⟨v1, rfl, r1, g1, o1⟩
  have S2 := Lib.hid (qst_call S1.out o1 g1)
  have r1 := ownsRow_low r1 z1
  have z2 := Nat.le_trans z1 g1.size
  obtain ⟨aj, cj, rfl, _⟩ := own_jobs r1
  have C2 := Lib.hid (H2.out w2 S2.out.1 S2.out.2.2.2.2.2)
  clear g1 o1 S1 C1 H2
  go_wp2_with fail
  refine C2.out.mono ?_
  rintro e w3 ⟨v2, rfl, r2, g2, o2⟩
  have S3 := Lib.hid (qst_call S2.out o2 g2)
  have r1 := own_rd r1 g2 (by omega)
  have r2 := ownsRow_low r2 z2
  have z3 := Nat.le_trans z2 g2.size
  obtain ⟨an, cn, rfl, _⟩ := own_nodes r2
  have C3 := Lib.hid (H3.out w3 S3.out.1 S3.out.2.2.2.2.2)
  clear g2 o2 S2 C2 H3
  go_wp2_with fail
  refine C3.out.mono ?_
  rintro e w4 ⟨v3, rfl, r3, g3, o3⟩
  have S4 := Lib.hid (qst_call S3.out o3 g3)
  have r1 := own_rd r1 g3 (by omega)
  have r2 := own_rd r2 g3 (by omega)
  have r3 := ownsRow_low r3 z3
  obtain ⟨al, cl, rfl, _⟩ := own_leases r3
  have RW : JOwn (w.heap.size + 1) aj an al cj cn cl ⟨n, x1, x2, x3⟩ w4 := ⟨r1, r2, r3⟩
  clear g3 o3 S3 C3 r1 r2 r3
  have p0 := objAt_cell S4.out.2.1 0 rfl
  have y0 := objAt_free S4.out.2.1 0
  have p1 := objAt_cell S4.out.2.1 1 rfl
  have y1 := objAt_free S4.out.2.1 1
  have p2 := objAt_cell S4.out.2.1 2 rfl
  have y2 := objAt_free S4.out.2.1 2
  have p3 := objAt_cell S4.out.2.1 3 rfl
  have y3 := objAt_free S4.out.2.1 3
  have zz := objAt_lt S4.out.2.1
  have q0 : QSt b m3 w.heap.size #[.int .i64 n, .slice none 0 0, .slice none 0 0, .slice none 0 0] 26 w _ := qst_store S4.out 0 (.int .i64 n)
  have q1 : QSt b m3 w.heap.size #[.int .i64 n, .slice aj x1.length cj, .slice none 0 0, .slice none 0 0] 26 w _ := qst_store q0 1 (.slice aj x1.length cj)
  have q2 : QSt b m3 w.heap.size #[.int .i64 n, .slice aj x1.length cj, .slice an x2.length cn, .slice none 0 0] 26 w _ := qst_store q1 2 (.slice an x2.length cn)
  have q3 : QSt b m3 w.heap.size #[.int .i64 n, .slice aj x1.length cj, .slice an x2.length cn, .slice al x3.length cl] 26 w _ := qst_store q2 3 (.slice al x3.length cl)
  have QF := Lib.hid q3
  have RF := Lib.hid (jown_low (jown_set (jown_set (jown_set (jown_set RW (b := w.heap.size) (by omega) 0 (.int .i64 n)) (b := w.heap.size) (by omega) 1 (.slice aj x1.length cj)) (b := w.heap.size) (by omega) 2 (.slice an x2.length cn)) (b := w.heap.size) (by omega) 3 (.slice al x3.length cl)) (Nat.le_succ w.heap.size))
  clear q3 q2 q1 q0 RW
  go_wp2
  have i0 := objAt_cell QF.out.2.1 0 rfl
  have i1 := objAt_cell QF.out.2.1 1 rfl
  have i2 := objAt_cell QF.out.2.1 2 rfl
  have i3 := objAt_cell QF.out.2.1 3 rfl
  exact bodyPost_ret (v := .agg #[.int .i64 n, .slice aj x1.length cj, .slice an x2.length cn, .slice al x3.length cl]) (by simp [results, Tryz.results17, go_sem, i0, i1, i2, i3]) rfl ⟨aj, an, al, cj, cn, cl, rfl, RF.out, QF.out.2.2.1⟩
/-! ### what was read is a state that memory can hold -/
theorem wf_64 {n : Int} (h : -9223372036854775808 ≤ n ∧ n ≤ 9223372036854775807) : (Lit.int .i64 n).wf = true := by
  simp [Lit.wf, IntKind.min, IntKind.max, IntKind.signed, IntKind.bits]; omega
theorem wf_num (l : List UInt8) : (Lit.int .i64 (numP l).1).wf = true := wf_64 (atoiV_bounds _)
theorem sz_text {l : List UInt8} (h : l.length ≤ 60000) : (baL (textP l).1).size ≤ maxLen := by
  have := (text_short l).2
  rw [baL_size]
  unfold maxLen
  omega
theorem rwAt_all {α : Type} {P : α → Prop} {d : List UInt8 → α × List UInt8} (hd : Less d) (hP : ∀ l, l.length ≤ 60000 → P (d l).1) : ∀ (n : Nat) (acc : List α) (l : List UInt8), l.length ≤ n → l.length ≤ 60000 → (∀ x ∈ acc, P x) → ∀ x ∈ (rwAt d acc l).1, P x := by
  intro n
  induction n with
  | zero =>
    intro acc l hl _ ha
    obtain rfl : l = [] := List.eq_nil_of_length_eq_zero (by omega)
    rw [rwAt_end d acc (by simp)]
    exact ha
  | succ n ih =>
    intro acc l hl h6 ha
    by_cases h : l.headD 0 = 123
    · have h1 := rw_short hd h
      rw [rwAt_step hd acc h]
      refine ih _ _ (by omega) (by omega) ?_
      intro x hx
      rcases List.mem_append.1 hx with hx | hx
      · exact ha x hx
      · simp only [List.mem_cons, List.not_mem_nil, or_false] at hx
        subst hx
        exact hP l h6
    · rw [rwAt_end d acc h]
      exact ha
theorem rowsQ_all {α : Type} {P : α → Prop} {d : List UInt8 → α × List UInt8} (hd : Less d) (hP : ∀ l, l.length ≤ 60000 → P (d l).1) (l : List UInt8) (hl : l.length ≤ 60000) : ∀ x ∈ (rowsQ d l).1, P x := by
  have h1 := find_short l
  have h2 := skip_short 91 (findP l)
  exact rwAt_all hd hP _ [] _ (Nat.le_refl _) (by omega) (fun x hx => by cases hx)
theorem wJob_q (l : List UInt8) (h : l.length ≤ 60000) : wJob (jobQ l).1 := by
  have a := (text_short l).1
  have b := num_short (textP l).2
  have c := num_short (numP (textP l).2).2
  have d := num_short (numP (numP (textP l).2).2).2
  exact ⟨sz_text h, wf_num _, wf_num _, wf_num _, sz_text (by omega)⟩
theorem wNode_q (l : List UInt8) (h : l.length ≤ 60000) : wNode (nodeQ l).1 := by
  have a := (text_short l).1
  have b := num_short (textP l).2
  exact ⟨sz_text h, wf_num _, sz_text (by omega)⟩
theorem wLease_q (l : List UInt8) (h : l.length ≤ 60000) : wLease (leaseQ l).1 := by
  have a := (text_short l).1
  exact ⟨sz_text h, sz_text (by omega), wf_num _⟩
theorem wState_q (l : List UInt8) (h : l.length ≤ 60000) : wState (stQ l).1 := by
  have k0 := num_short l
  have k1 := (rowsQ_len jobQ_short (numP l).2).1
  have k2 := (rowsQ_len nodeQ_short (rowsQ jobQ (numP l).2).2).1
  have a1 := rowsQ_all jobQ_short wJob_q (numP l).2 (by omega)
  have a2 := rowsQ_all nodeQ_short wNode_q (rowsQ jobQ (numP l).2).2 (by omega)
  have a3 := rowsQ_all leaseQ_short wLease_q (rowsQ nodeQ (rowsQ jobQ (numP l).2).2).2 (by omega)
  have a0 := wf_num l
  unfold stQ
  dsimp only
  generalize rowsQ leaseQ (rowsQ nodeQ (rowsQ jobQ (numP l).2).2).2 = R3 at a3 ⊢
  generalize rowsQ nodeQ (rowsQ jobQ (numP l).2).2 = R2 at a2 ⊢
  generalize rowsQ jobQ (numP l).2 = R1 at a1 ⊢
  generalize numP l = R0 at a0 ⊢
  exact ⟨a0, a1, a2, a3⟩
/-! ### Parse -/
noncomputable def jpR (t : ByteArray) : StD × Nat := jparR V8 t.data.toList
def ParP (r : StD × Nat) (w : World) (e : Ending) (w' : World) : Prop := ∃ aj an al cj cn cl, e = .returned (.tuple #[.agg #[.int .i64 r.1.rev, .slice aj r.1.jobs.length cj, .slice an r.1.nodes.length cn, .slice al r.1.leases.length cl], .int .i64 r.2]) ∧ JOwn w.heap.size aj an al cj cn cl r.1 w' ∧ Below w.heap.size w w'
theorem jown_zero (B : Nat) (w : World) : JOwn B none none none 0 0 0 zeroSt w := ⟨World.ownsRow_nil _ _ _ _, World.ownsRow_nil _ _ _ _, World.ownsRow_nil _ _ _ _⟩
theorem below_set4 {B r : Nat} {w w' : World} (h : Below B w w') (hr : B ≤ r) (x0 x1 x2 x3 : Value) : Below B w ((((w'.setCell ⟨r, 0, none⟩ x0).setCell ⟨r, 1, none⟩ x1).setCell ⟨r, 2, none⟩ x2).setCell ⟨r, 3, none⟩ x3) :=
  (((h.setCell (p := ⟨r, 0, none⟩) hr _).setCell (p := ⟨r, 1, none⟩) hr _).setCell (p := ⟨r, 2, none⟩) hr _).setCell (p := ⟨r, 3, none⟩) hr _
theorem objAt_set4 {r : Nat} {y0 y1 y2 y3 : Value} {t : TypeId} {w : World} (h : ObjAt r #[y0, y1, y2, y3] t w) (x0 x1 x2 x3 : Value) : ObjAt r #[x0, x1, x2, x3] t ((((w.setCell ⟨r, 0, none⟩ x0).setCell ⟨r, 1, none⟩ x1).setCell ⟨r, 2, none⟩ x2).setCell ⟨r, 3, none⟩ x3) := by
  have a0 : ObjAt r #[x0, y1, y2, y3] t _ := objAt_set h 0 x0
  have a1 : ObjAt r #[x0, x1, y2, y3] t _ := objAt_set a0 1 x1
  have a2 : ObjAt r #[x0, x1, x2, y3] t _ := objAt_set a1 2 x2
  exact objAt_set a2 3 x3
set_option maxRecDepth 100000 in
set_option maxHeartbeats 8000000 in
theorem parse_any (t : ByteArray) (w : World) (hT : JTabs w) :
    Calls Tryz.prog 7 #[.string t] w (ParP (jpR t) w) := by
  have hsz : t.data.toList.length = t.size := by rw [Array.length_toList]; rfl
  obtain ⟨W0, hW0⟩ : ∃ W0, w.alloc (.cells #[.int .i64 0, .slice none 0 0, .slice none 0 0, .slice none 0 0] 26) = W0 := ⟨_, rfl⟩
  have o0 := objAt_new w #[.int .i64 0, .slice none 0 0, .slice none 0 0, .slice none 0 0] 26
  have bW := below_one w (.cells #[.int .i64 0, .slice none 0 0, .slice none 0 0, .slice none 0 0] 26)
  have sW : W0.heap.size = w.heap.size + 1 := by rw [← hW0, World.size_alloc]
  rw [hW0] at o0 bW
  by_cases hbig : 60000 < t.size
  · have hR : jpR t = (zeroSt, 2) := jpar_large (by omega)
    rw [hR]
    have hbig' : (60000 : Int) < (t.size : Int) := by omega
    have O0 := Lib.hid (objAt_set4 o0 (.int .i64 0) (.slice none 0 0) (.slice none 0 0) (.slice none 0 0))
    have B0 := Lib.hid (below_set4 bW (Nat.le_refl _) (.int .i64 0) (.slice none 0 0) (.slice none 0 0) (.slice none 0 0))
    have p0 := objAt_cell o0 0 rfl
    have p1 := objAt_cell o0 1 rfl
    have p2 := objAt_cell o0 2 rfl
    have p3 := objAt_cell o0 3 rfl
    have y0 := objAt_free o0 0
    have y1 := objAt_free o0 1
    have y2 := objAt_free o0 2
    have y3 := objAt_free o0 3
    have zz := objAt_lt o0
    clear hR hT bW o0 hsz hbig
    go_enter Tryz.func7, Tryz.ntmps7
    go_wp2
    have i0 := objAt_cell O0.out 0 rfl
    have i1 := objAt_cell O0.out 1 rfl
    have i2 := objAt_cell O0.out 2 rfl
    have i3 := objAt_cell O0.out 3 rfl
    exact bodyPost_ret (v := .tuple #[.agg #[.int .i64 0, .slice none 0 0, .slice none 0 0, .slice none 0 0], .int .i64 2]) (by simp [results, Tryz.results7, go_sem, i0, i1, i2, i3]) rfl ⟨none, none, none, 0, 0, 0, rfl, jown_zero _ _, B0.out⟩
  · have hl : t.data.toList.length ≤ 60000 := by omega
    have hle : ¬ (60000 : Int) < (t.size : Int) := by omega
    have e1 : baL t.data.toList = t := quoteB_ba t
    obtain ⟨W1, hW1⟩ : ∃ W1, W0.alloc (.cells #[.string t] 43) = W1 := ⟨_, rfl⟩
    have bA := below_one W0 (.cells #[.string t] 43)
    have oR : RdAt W0.heap.size t.data.toList W1 := by
      have := objAt_new W0 #[.string t] 43
      rw [hW1] at this
      unfold RdAt
      rw [e1]
      exact this
    rw [hW1] at bA
    have b1 : Below w.heap.size w W1 := below_trans bW bA bW.size
    have hE : JEnv W0.heap.size W1 := fun w' hb => hT.below (b1.trans (hb.mono (by omega)))
    have HS := rdState_is hl W1 oR hE
    have o1 := objAt_next o0 bA
    have s1 : W1.heap.size = w.heap.size + 2 := by rw [← hW1, World.size_alloc, sW]
    have hws := wState_q t.data.toList hl
    have hcase : (checkE V8 (stQ t.data.toList).1 = 0 ∧ stJ (stQ t.data.toList).1 = t.data.toList ∧ jpR t = ((stQ t.data.toList).1, 0)) ∨ (checkE V8 (stQ t.data.toList).1 = 0 ∧ baL (stJ (stQ t.data.toList).1) ≠ t ∧ jpR t = (zeroSt, 4)) ∨ (checkE V8 (stQ t.data.toList).1 ≠ 0 ∧ jpR t = (zeroSt, 4)) := by
      by_cases hc : checkE V8 (stQ t.data.toList).1 = 0
      · by_cases hj : stJ (stQ t.data.toList).1 = t.data.toList
        · exact .inl ⟨hc, hj, jpar_read hl hc hj⟩
        · refine .inr (.inl ⟨hc, fun e => hj ?_, jpar_prog hl (fun h => hj h.2)⟩)
          rw [← e1] at e
          exact baL_inj e
      · exact .inr (.inr ⟨hc, jpar_prog hl (fun h => hc h.1)⟩)
    generalize (stQ t.data.toList).1 = s at HS hws hcase
    rw [sW] at HS
    have HS := Lib.hid HS
    have HWS := Lib.hid hws
    have HCS := Lib.hid hcase
    have O1 := Lib.hid o1
    have HT := Lib.hid hT
    have B1 := Lib.hid b1
    have HE1 := Lib.hid e1
    clear hsz hbig hl oR bA b1 hE o1 o0 hws hcase hT bW e1
    go_enter Tryz.func7, Tryz.ntmps7
    go_wp2_with fail
    refine HS.out.mono ?_
    rintro e w2 ⟨aj, an, al, cj, cn, cl, rfl, r2, g2⟩
    have b2 : Below (w.heap.size + 1) W1 w2 := jgrown_below g2 (by omega)
    have o2 : ObjAt w.heap.size #[.int .i64 0, .slice none 0 0, .slice none 0 0, .slice none 0 0] 26 w2 := by
      have := O1.out
      unfold ObjAt at this ⊢
      rw [b2.block w.heap.size (by omega)]
      exact this
    have hs2 := g2.size
    obtain ⟨T, hTT⟩ : ∃ T, w2.heap.size = T := ⟨_, rfl⟩
    obtain ⟨W3, hW3⟩ : ∃ W3, w2.alloc (.cells #[.int .i64 s.rev, .slice aj s.jobs.length cj, .slice an s.nodes.length cn, .slice al s.leases.length cl] 26) = W3 := ⟨_, rfl⟩
    have oT := objAt_new w2 #[.int .i64 s.rev, .slice aj s.jobs.length cj, .slice an s.nodes.length cn, .slice al s.leases.length cl] 26
    have b3 := below_one w2 (.cells #[.int .i64 s.rev, .slice aj s.jobs.length cj, .slice an s.nodes.length cn, .slice al s.leases.length cl] 26)
    rw [hW3] at oT b3
    rw [hTT] at oT
    have o3 := objAt_next o2 b3
    have r3 := jown_below r2 b3
    rw [s1] at r3
    have bw3 : Below w.heap.size w W3 := (B1.out.trans (b2.mono (by omega))).trans (b3.mono (by omega))
    have hT3 : JTabs W3 := HT.out.below bw3
    have hPr := print_any s aj an al cj cn cl HWS.out W3 hT3.tabs hT3.pow (jown_at r3).1 (jown_at r3).2.1 (jown_at r3).2.2
    have HPr := Lib.hid hPr
    have OT := Lib.hid oT
    have O3 := Lib.hid o3
    have R3 := Lib.hid r3
    have BW3 := Lib.hid bw3
    have tc0 := objAt_cell oT 0 rfl
    have tc1 := objAt_cell oT 1 rfl
    have tc2 := objAt_cell oT 2 rfl
    have tc3 := objAt_cell oT 3 rfl
    have hT2 : w.heap.size + 2 ≤ T := by omega
    clear r2 g2 b2 o2 oT b3 o3 r3 bw3 hT3 hPr HS HWS
    obtain ⟨F, hF⟩ : ∃ F, prR s = F := ⟨_, rfl⟩
    obtain ⟨form, ec⟩ := F
    have hcs : (form = t ∧ ec = 0 ∧ jpR t = (s, 0)) ∨ (form ≠ t ∧ ec = 0 ∧ jpR t = (zeroSt, 4)) ∨ (ec ≠ 0 ∧ jpR t = (zeroSt, 4)) := by
      rcases HCS.out with ⟨hc, hj, hR⟩ | ⟨hc, hn, hR⟩ | ⟨hc, hR⟩
      · rw [pr_ok hc] at hF
        simp only [Prod.mk.injEq] at hF
        exact .inl ⟨by rw [← hF.1, hj, HE1.out], hF.2.symm, hR⟩
      · rw [pr_ok hc] at hF
        simp only [Prod.mk.injEq] at hF
        exact .inr (.inl ⟨by rw [← hF.1]; exact hn, hF.2.symm, hR⟩)
      · rw [pr_no hc] at hF
        simp only [Prod.mk.injEq] at hF
        exact .inr (.inr ⟨by rw [← hF.2]; exact hc, hR⟩)
    rw [hF] at HPr
    dsimp only at HPr
    clear hF HCS HE1
    go_wp2_with fail
    refine HPr.out.mono ?_
    rintro e w4 ⟨rfl, b4⟩
    have o4 := objAt_next O3.out b4
    have t4 := objAt_next OT.out b4
    have R4 := jown_below R3.out b4
    have b5 := below_trans BW3.out b4 BW3.out.size
    have p0 := objAt_cell o4 0 rfl
    have p1 := objAt_cell o4 1 rfl
    have p2 := objAt_cell o4 2 rfl
    have p3 := objAt_cell o4 3 rfl
    have y0 := objAt_free o4 0
    have y1 := objAt_free o4 1
    have y2 := objAt_free o4 2
    have y3 := objAt_free o4 3
    have zz := objAt_lt o4
    have u0 := objAt_cell t4 0 rfl
    have u1 := objAt_cell t4 1 rfl
    have u2 := objAt_cell t4 2 rfl
    have u3 := objAt_cell t4 3 rfl
    clear tc0 tc1 tc2 tc3 OT O3 R3 BW3 b4 HPr t4
    rcases hcs with ⟨rfl, rfl, hR⟩ | ⟨hne, rfl, hR⟩ | ⟨hec, hR⟩
    · have q1 : (form.toList == form.toList) = true := by simp
      have O5 := Lib.hid (objAt_set4 o4 (.int .i64 s.rev) (.slice aj s.jobs.length cj) (.slice an s.nodes.length cn) (.slice al s.leases.length cl))
      have B5 := Lib.hid (below_set4 b5 (Nat.le_refl _) (.int .i64 s.rev) (.slice aj s.jobs.length cj) (.slice an s.nodes.length cn) (.slice al s.leases.length cl))
      have R5 := Lib.hid (jown_low (jown_set (jown_set (jown_set (jown_set R4 (b := w.heap.size) (by omega) 0 (.int .i64 s.rev)) (b := w.heap.size) (by omega) 1 (.slice aj s.jobs.length cj)) (b := w.heap.size) (by omega) 2 (.slice an s.nodes.length cn)) (b := w.heap.size) (by omega) 3 (.slice al s.leases.length cl)) (B' := w.heap.size) (by omega))
      have HR := Lib.hid hR
      clear hR o4 b5 R4
      go_wp2
      have i0 := objAt_cell O5.out 0 rfl
      have i1 := objAt_cell O5.out 1 rfl
      have i2 := objAt_cell O5.out 2 rfl
      have i3 := objAt_cell O5.out 3 rfl
      exact bodyPost_ret (v := .tuple #[.agg #[.int .i64 s.rev, .slice aj s.jobs.length cj, .slice an s.nodes.length cn, .slice al s.leases.length cl], .int .i64 0]) (by simp [results, Tryz.results7, go_sem, i0, i1, i2, i3]) rfl (by rw [HR.out]; exact ⟨aj, an, al, cj, cn, cl, rfl, R5.out, B5.out⟩)
    · have q1 := ne_list hne
      clear hne
      have i := And.intro p0 (And.intro p1 (And.intro p2 p3))
      have O5 := Lib.hid (objAt_set4 o4 (.int .i64 0) (.slice none 0 0) (.slice none 0 0) (.slice none 0 0))
      have B5 := Lib.hid (below_set4 b5 (Nat.le_refl _) (.int .i64 0) (.slice none 0 0) (.slice none 0 0) (.slice none 0 0))
      have HR := Lib.hid hR
      clear hR o4 b5 R4 i
      go_wp2
      have i0 := objAt_cell O5.out 0 rfl
      have i1 := objAt_cell O5.out 1 rfl
      have i2 := objAt_cell O5.out 2 rfl
      have i3 := objAt_cell O5.out 3 rfl
      exact bodyPost_ret (v := .tuple #[.agg #[.int .i64 0, .slice none 0 0, .slice none 0 0, .slice none 0 0], .int .i64 4]) (by simp [results, Tryz.results7, go_sem, i0, i1, i2, i3]) rfl (by rw [HR.out]; exact ⟨none, none, none, 0, 0, 0, rfl, jown_zero _ _, B5.out⟩)
    · have q1 : ((ec : Int) != 0) = true := by simp; omega
      clear hec
      have i := And.intro p0 (And.intro p1 (And.intro p2 p3))
      have O5 := Lib.hid (objAt_set4 o4 (.int .i64 0) (.slice none 0 0) (.slice none 0 0) (.slice none 0 0))
      have B5 := Lib.hid (below_set4 b5 (Nat.le_refl _) (.int .i64 0) (.slice none 0 0) (.slice none 0 0) (.slice none 0 0))
      have HR := Lib.hid hR
      clear hR o4 b5 R4 i
      go_wp2
      have i0 := objAt_cell O5.out 0 rfl
      have i1 := objAt_cell O5.out 1 rfl
      have i2 := objAt_cell O5.out 2 rfl
      have i3 := objAt_cell O5.out 3 rfl
      exact bodyPost_ret (v := .tuple #[.agg #[.int .i64 0, .slice none 0 0, .slice none 0 0, .slice none 0 0], .int .i64 4]) (by simp [results, Tryz.results7, go_sem, i0, i1, i2, i3]) rfl (by rw [HR.out]; exact ⟨none, none, none, 0, 0, 0, rfl, jown_zero _ _, B5.out⟩)
end Go.Proofs.YthbgaphidojneaaGreatDoor
