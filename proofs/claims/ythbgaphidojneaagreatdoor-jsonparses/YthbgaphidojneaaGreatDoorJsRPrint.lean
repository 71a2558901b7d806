/- The reference's Digits and Print. Written by gen_jsp.py. -/
import Derived.Test.YthbgaphidojneaaGreatDoorJsPrint
import Derived.Test.YthbgaphidojneaaGreatDoorJsRQuote
import Derived.Test.YthbgaphidojneaaGreatDoorPkStR
import Derived.Test.YthbgaphidojneaaGreatDoorPkRef
import Derived.Deep.RegionHeld3
namespace Go.Proofs.YthbgaphidojneaaGreatDoor
open Go.RowKit
theorem digN_app {n : Nat} (h : ¬ n < 10) : baL (digN (n / 10)) ++ ⟨#[UInt8.ofNat (48 + n % 10)]⟩ = baL (digN n) := by
  rw [digN_ge h, baL_app]; rfl
set_option maxRecDepth 100000 in
theorem rdigN_is : ∀ (N : Nat), N < 1000000000000000000 → ∀ w : World,
    Calls Tryz.prog 63 #[.int .i64 (N : Int)] w fun e w' => e = .returned (.string (baL (digN N))) ∧ Below w.heap.size w w' := by
  intro N
  induction N using Nat.strongRecOn with
  | ind N ih =>
    intro hN w
    by_cases h : N < 10
    · have hC := chr_nat (48 + N) (by omega)
      rw [show ((48 + N : Nat) : Int) = 48 + (N : Int) from by omega] at hC
      have hs : baL (digN N) = ⟨#[UInt8.ofNat (48 + N)]⟩ := by rw [digN_lt h]; rfl
      rw [hs]
      generalize (⟨#[UInt8.ofNat (48 + N)]⟩ : ByteArray) = u at hC ⊢
      have HC := Lib.hid hC
      clear ih hs hN hC
      go_enter Tryz.func63, Tryz.ntmps63
      go_wp2_with fail
      refine (HC.out _).mono ?_
      rintro e w2 ⟨rfl, hb2⟩
      go_wp2
      go_ret
      exact ⟨rfl, hb2⟩
    · have hC := chr_nat (48 + N % 10) (by omega)
      rw [show ((48 + N % 10 : Nat) : Int) = 48 + (N : Int) % 10 from by omega] at hC
      have hI := ih (N / 10) (by omega) (by omega)
      rw [show ((N / 10 : Nat) : Int) = (N : Int) / 10 from by omega] at hI
      have HC := Lib.hid hC
      have HI := Lib.hid hI
      have h19 : (baL (digN (N / 10))).size ≤ 19 := by rw [baL_size]; have := digN_len 17 (N / 10) (by omega); omega
      rw [← digN_app h]
      clear ih hC hI
      generalize baL (digN (N / 10)) = t at *
      generalize UInt8.ofNat (48 + N % 10) = b at *
      have h1 : (⟨#[b]⟩ : ByteArray).size ≤ 1 := Nat.le_refl 1
      generalize (⟨#[b]⟩ : ByteArray) = u at *
      go_enter Tryz.func63, Tryz.ntmps63
      go_wp2_with fail
      refine (HI.out _).mono ?_
      rintro e w2 ⟨rfl, hb2⟩
      go_wp2_with fail
      refine (HC.out _).mono ?_
      rintro e w3 ⟨rfl, hb3⟩
      go_wp2
      go_ret
      exact ⟨rfl, hb2.trans (hb3.mono hb2.size)⟩
set_option maxRecDepth 100000 in
theorem rdig_is (n : Int) (h : small18 n) (w : World) :
    Calls Tryz.prog 63 #[.int .i64 n] w fun e w' => e = .returned (.string (baL (digZ n))) ∧ Below w.heap.size w w' := by
  unfold small18 at h
  by_cases hn : n < 0
  · obtain ⟨k, hk⟩ : ∃ k : Nat, -n = (k : Int) := ⟨(-n).toNat, by omega⟩
    have e : baL (digZ n) = ⟨#[45]⟩ ++ baL (digN k) := by
      unfold digZ
      rw [if_pos hn, show (-n).toNat = k by omega]
      show baL ([45] ++ digN k) = _
      rw [baL_app]; rfl
    have HI := rdigN_is k (by omega)
    have h19 : (baL (digN k)).size ≤ 19 := by rw [baL_size]; have := digN_len 17 k (by omega); omega
    rw [e]
    rw [← hk] at HI
    have HI := Lib.hid HI
    clear e hk
    generalize baL (digN k) = t at *
    go_enter Tryz.func63, Tryz.ntmps63
    go_wp2_with fail
    refine (HI.out _).mono ?_
    rintro e w2 ⟨rfl, hb2⟩
    go_wp2
    go_ret
    exact ⟨rfl, hb2⟩
  · obtain ⟨k, rfl⟩ := Int.eq_ofNat_of_zero_le (show 0 ≤ n by omega)
    have e : digZ (k : Int) = digN k := by unfold digZ; rw [if_neg hn]; rfl
    rw [e]
    exact rdigN_is k (by omega) w
/-- Strings in a row. -/
def StrsAt (w : World) (a : Option Addr) (cap : Nat) (l : List ByteArray) : Prop := ∀ (j : Nat) (h : j < l.length), ∃ g, a = some ⟨g, 0, none⟩ ∧ g < w.heap.size ∧ l.length ≤ cap ∧ w.cell? ⟨g, j, none⟩ = some (.string l[j])
theorem strsAt_next {w w' : World} {a : Option Addr} {cap : Nat} {l : List ByteArray} (h : StrsAt w a cap l) (hb : Below w.heap.size w w') : StrsAt w' a cap l := by
  intro j hj
  obtain ⟨g, h1, h2, h3, h4⟩ := h j hj
  exact ⟨g, h1, Nat.lt_of_lt_of_le h2 hb.size, h3, by rw [hb.cell (p := ⟨g, j, none⟩) h2]; exact h4⟩
theorem base_le {w1 x : World} {ob : Obj} (h : Below w1.heap.size w1 x) : w1.heap.size ≤ (x.alloc ob).heap.size := by
  rw [World.size_alloc]
  have := h.size
  omega
theorem str_one (s : ByteArray) : ∀ u ∈ [Value.string s], u.oneCell' = true := by
  intro u hu
  simp only [List.mem_cons, List.not_mem_nil, or_false] at hu
  subst hu
  rfl
theorem japp3 {T : Nat} {v0 v1 v2 v : Value} {ob : Obj} {w1 x y : World} (h : (x.cell? ⟨T, 0, none⟩ = some v0 ∧ x.cell? ⟨T, 1, none⟩ = some v1 ∧ x.cell? ⟨T, 2, none⟩ = some v2) ∧ T < x.heap.size ∧ Below w1.heap.size w1 x) (hg : (x.alloc ob).grownBy y v.ownBlock) (hv : ∀ k, v.ownBlock = some k → w1.heap.size ≤ k ∧ k < T) : (y.cell? ⟨T, 0, none⟩ = some v0 ∧ y.cell? ⟨T, 1, none⟩ = some v1 ∧ y.cell? ⟨T, 2, none⟩ = some v2) ∧ T < y.heap.size ∧ Below w1.heap.size w1 y := by
  obtain ⟨hc, hT, hb⟩ := jheld3 (W := w1) (below_one x ob) h
  have hz := hg.size
  have hk : ∀ j, y.cell? ⟨T, j, none⟩ = (x.alloc ob).cell? ⟨T, j, none⟩ := by
    intro j
    unfold World.cell?
    rw [hg.block T hT (fun e => by have := (hv T e.symm).2; omega)]
  refine ⟨⟨by rw [hk]; exact hc.1, by rw [hk]; exact hc.2.1, by rw [hk]; exact hc.2.2⟩, by omega, hb.grown hg hb.size (fun k hk' => (hv k hk').1)⟩
theorem japp5 {T : Nat} {v0 v1 v2 v3 v4 v : Value} {ob : Obj} {w1 x y : World} (h : (x.cell? ⟨T, 0, none⟩ = some v0 ∧ x.cell? ⟨T, 1, none⟩ = some v1 ∧ x.cell? ⟨T, 2, none⟩ = some v2 ∧ x.cell? ⟨T, 3, none⟩ = some v3 ∧ x.cell? ⟨T, 4, none⟩ = some v4) ∧ T < x.heap.size ∧ Below w1.heap.size w1 x) (hg : (x.alloc ob).grownBy y v.ownBlock) (hv : ∀ k, v.ownBlock = some k → w1.heap.size ≤ k ∧ k < T) : (y.cell? ⟨T, 0, none⟩ = some v0 ∧ y.cell? ⟨T, 1, none⟩ = some v1 ∧ y.cell? ⟨T, 2, none⟩ = some v2 ∧ y.cell? ⟨T, 3, none⟩ = some v3 ∧ y.cell? ⟨T, 4, none⟩ = some v4) ∧ T < y.heap.size ∧ Below w1.heap.size w1 y := by
  obtain ⟨hc, hT, hb⟩ := jheld5 (W := w1) (below_one x ob) h
  have hz := hg.size
  have hk : ∀ j, y.cell? ⟨T, j, none⟩ = (x.alloc ob).cell? ⟨T, j, none⟩ := by
    intro j
    unfold World.cell?
    rw [hg.block T hT (fun e => by have := (hv T e.symm).2; omega)]
  refine ⟨⟨by rw [hk]; exact hc.1, by rw [hk]; exact hc.2.1, by rw [hk]; exact hc.2.2.1, by rw [hk]; exact hc.2.2.2.1, by rw [hk]; exact hc.2.2.2.2⟩, by omega, hb.grown hg hb.size (fun k hk' => (hv k hk').1)⟩
set_option maxRecDepth 100000 in
set_option maxHeartbeats 16000000 in
theorem rprint_any (s : StD) (aj an al : Option Addr) (cj cn cl : Nat) (w : World) (hmj : JobsAt w aj s.jobs) (hmn : NodesAt w an s.nodes) (hml : LeasesAt w al s.leases) :
    Calls Tryz.prog 25 #[.agg #[.int .i64 s.rev, .slice aj s.jobs.length cj, .slice an s.nodes.length cn, .slice al s.leases.length cl]] w fun e w' => e = .returned (.tuple #[.string (prR s).1, .int .i64 (prR s).2]) ∧ Below w.heap.size w w' := by
  obtain ⟨W, hW⟩ : ∃ W, w.alloc (.cells #[.int .i64 s.rev, .slice aj s.jobs.length cj, .slice an s.nodes.length cn, .slice al s.leases.length cl] 26) = W := ⟨_, rfl⟩
  have q := box_new4 w (.int .i64 s.rev) (.slice aj s.jobs.length cj) (.slice an s.nodes.length cn) (.slice al s.leases.length cl) 26
  have bW := below_one w (.cells #[.int .i64 s.rev, .slice aj s.jobs.length cj, .slice an s.nodes.length cn, .slice al s.leases.length cl] 26)
  rw [hW] at q bW
  have mj := jobsAt_next hmj bW
  have mn := nodesAt_next hmn bW
  have ml := leasesAt_next hml bW
  have es : (⟨s.rev, s.jobs, s.nodes, s.leases⟩ : StD) = s := rfl
  have HC := rcheck_any s.rev aj an al cj cn cl s.jobs s.nodes s.leases W mj mn ml
  rw [es] at HC
  have HC := Lib.hid HC
  have d0 := q.1 0 _ rfl
  have d1 := q.1 1 _ rfl
  have d2 := q.1 2 _ rfl
  have d3 := q.1 3 _ rfl
  have hq := q.2
  have BW := Lib.hid bW
  clear hmj hmn hml q bW es
  by_cases hc : checkE V8 s = 0
  · rw [pr_ok hc]
    have hv := (check_zero V8 s).1 hc
    rw [hc] at HC
    have HV := Lib.hid hv
    have HM := Lib.hid (And.intro mj (And.intro mn ml))
    have hj40 : s.jobs.length ≤ 40 := hv.2.1.1
    have hl40 : s.leases.length ≤ 40 := hv.2.1.2.1
    have hn20 : s.nodes.length ≤ 20 := hv.2.1.2.2
    obtain ⟨i0, qi, qz0, qz1, qz2⟩ := info_parts' Tryz.info_str
    have Hi := Lib.hid qi
    have Hz0 := Lib.hid qz0
    have Hz1 := Lib.hid qz1
    have Hz2 := Lib.hid qz2
    clear mj mn ml hc hv qi qz0 qz1 qz2
    go_enter Tryz.func25, Tryz.ntmps25
    go_wp2_with fail
    refine HC.out.mono ?_
    rintro e W1 ⟨rfl, b1⟩
    have f0 : W1.cell? ⟨w.heap.size, 0, none⟩ = some (.int .i64 s.rev) := by rw [b1.cell (p := ⟨w.heap.size, 0, none⟩) hq]; exact d0
    have f1 : W1.cell? ⟨w.heap.size, 1, none⟩ = some (.slice aj s.jobs.length cj) := by rw [b1.cell (p := ⟨w.heap.size, 1, none⟩) hq]; exact d1
    have f2 : W1.cell? ⟨w.heap.size, 2, none⟩ = some (.slice an s.nodes.length cn) := by rw [b1.cell (p := ⟨w.heap.size, 2, none⟩) hq]; exact d2
    have f3 : W1.cell? ⟨w.heap.size, 3, none⟩ = some (.slice al s.leases.length cl) := by rw [b1.cell (p := ⟨w.heap.size, 3, none⟩) hq]; exact d3
    have hq1 : w.heap.size < W1.heap.size := Nat.lt_of_lt_of_le hq b1.size
    have B1 := Lib.hid (below_trans BW.out b1 BW.out.size)
    have M1 := Lib.hid (And.intro (jobsAt_next HM.out.1 b1) (And.intro (nodesAt_next HM.out.2.1 b1) (leasesAt_next HM.out.2.2 b1)))
    clear d0 d1 d2 d3 b1 HC HM BW hq
    go_wp2_with fail
    go_loopw [5, 22] (fun fv iv wr => ∃ i : Nat, iv = .int .i64 (i : Int) ∧ i ≤ s.jobs.length ∧ wr.ownsRow W1.heap.size 9 1 fv i (strsV ((s.jobs.take i).map fun x => baL (jobJ x))) ∧ Below W1.heap.size W1 wr) (fun _ iv _ => s.jobs.length - (intOf iv).toNat)
    case atStart => exact ⟨0, rfl, Nat.zero_le _, World.ownsRow_nil _ _ _ _, Below.refl _ _⟩
    case round =>
      obtain ⟨i, rfl, hi, hown, hbr⟩ := hrel
      by_cases h : (i : Int) < (s.jobs.length : Int)
      · have hil : i < s.jobs.length := by omega
        obtain ⟨a, rfl, hal, k0, k1, k2, k3, k4⟩ := jobsAt_next M1.out.1 hbr i hil
        obtain ⟨x, hxi⟩ : ∃ x, s.jobs[i] = x := ⟨_, rfl⟩
        rw [hxi] at k0 k1 k2 k3 k4
        have hx := valid_job HV.out (show x ∈ s.jobs from hxi ▸ List.getElem_mem hil)
        obtain ⟨Wx, hWx⟩ : ∃ Wx, wr.alloc (.cells #[.string x.name, .int .i64 x.prio, .int .i64 x.need, .int .i64 x.tries, .string x.tag] 51) = Wx := ⟨_, rfl⟩
        have q := box_new5 wr (.string x.name) (.int .i64 x.prio) (.int .i64 x.need) (.int .i64 x.tries) (.string x.tag) 51
        have bA := below_one wr (.cells #[.string x.name, .int .i64 x.prio, .int .i64 x.need, .int .i64 x.tries, .string x.tag] 51)
        rw [hWx] at q bA
        have o1 : (Wx.cell? ⟨wr.heap.size, 0, none⟩ = some (.string x.name) ∧ Wx.cell? ⟨wr.heap.size, 1, none⟩ = some (.int .i64 x.prio) ∧ Wx.cell? ⟨wr.heap.size, 2, none⟩ = some (.int .i64 x.need) ∧ Wx.cell? ⟨wr.heap.size, 3, none⟩ = some (.int .i64 x.tries) ∧ Wx.cell? ⟨wr.heap.size, 4, none⟩ = some (.string x.tag)) ∧ wr.heap.size < Wx.heap.size ∧ Below W1.heap.size W1 Wx := ⟨⟨q.1 0 _ rfl, q.1 1 _ rfl, q.1 2 _ rfl, q.1 3 _ rfl, q.1 4 _ rfl⟩, q.2, below_trans hbr bA hbr.size⟩
        have hownX := jown_next (jown_next hown bA) ((Below.refl _ Wx).drew)
        have hlow : ∀ kk, Value.ownBlock _ = some kk → W1.heap.size ≤ kk ∧ kk < wr.heap.size := fun kk hk => hown.lt kk hk
        have hstep : (s.jobs.take (i + 1)).map (fun x => baL (jobJ x)) = (s.jobs.take i).map (fun x => baL (jobJ x)) ++ [baL (jobJ x)] := by
          rw [List.take_succ_eq_append_getElem hil, List.map_append, hxi]; rfl
        have C0 := fun w' => rquote_is x.name (by have := hx.1; omega) w'
        have z0 := qd_size x.name hx.1
        obtain ⟨P0, e0⟩ : ∃ P, baL (quoteL x.name.data.toList) = P := ⟨_, rfl⟩
        rw [e0] at C0 z0
        have C1 := fun w' => rdig_is x.prio hx.2.1 w'
        have z1 := dg_size x.prio hx.2.1
        obtain ⟨P1, e1⟩ : ∃ P, baL (digZ x.prio) = P := ⟨_, rfl⟩
        rw [e1] at C1 z1
        have C2 := fun w' => rdig_is x.need hx.2.2.1 w'
        have z2 := dg_size x.need hx.2.2.1
        obtain ⟨P2, e2⟩ : ∃ P, baL (digZ x.need) = P := ⟨_, rfl⟩
        rw [e2] at C2 z2
        have C3 := fun w' => rdig_is x.tries hx.2.2.2.1 w'
        have z3 := dg_size x.tries hx.2.2.2.1
        obtain ⟨P3, e3⟩ : ∃ P, baL (digZ x.tries) = P := ⟨_, rfl⟩
        rw [e3] at C3 z3
        have C4 := fun w' => rquote_is x.tag (by have := hx.2.2.2.2; omega) w'
        have z4 := qd_size x.tag hx.2.2.2.2
        obtain ⟨P4, e4⟩ : ∃ P, baL (quoteL x.tag.data.toList) = P := ⟨_, rfl⟩
        rw [e4] at C4 z4
        obtain ⟨A1, y1⟩ : ∃ A, (⟨#[123, 34, 110, 97, 109, 101, 34, 58]⟩ : ByteArray) ++ P0 = A := ⟨_, rfl⟩
        have r1 : ¬ (9223372036854775807 < 8 + P0.size) ∧ A1.size = 8 + P0.size := by
          have e : A1.size = 8 + P0.size := by rw [← y1, ByteArray.size_append]; rfl
          exact ⟨by omega, e⟩
        obtain ⟨r1, s1⟩ := r1
        obtain ⟨A2, y2⟩ : ∃ A, A1 ++ (⟨#[44, 34, 112, 114, 105, 111, 34, 58]⟩ : ByteArray) = A := ⟨_, rfl⟩
        have r2 : ¬ (9223372036854775807 < A1.size + 8) ∧ A2.size = A1.size + 8 := by
          have e : A2.size = A1.size + 8 := by rw [← y2, ByteArray.size_append]; rfl
          exact ⟨by omega, e⟩
        obtain ⟨r2, s2⟩ := r2
        obtain ⟨A3, y3⟩ : ∃ A, A2 ++ P1 = A := ⟨_, rfl⟩
        have r3 : ¬ (9223372036854775807 < A2.size + P1.size) ∧ A3.size = A2.size + P1.size := by
          have e : A3.size = A2.size + P1.size := by rw [← y3, ByteArray.size_append]
          exact ⟨by omega, e⟩
        obtain ⟨r3, s3⟩ := r3
        obtain ⟨A4, y4⟩ : ∃ A, A3 ++ (⟨#[44, 34, 110, 101, 101, 100, 34, 58]⟩ : ByteArray) = A := ⟨_, rfl⟩
        have r4 : ¬ (9223372036854775807 < A3.size + 8) ∧ A4.size = A3.size + 8 := by
          have e : A4.size = A3.size + 8 := by rw [← y4, ByteArray.size_append]; rfl
          exact ⟨by omega, e⟩
        obtain ⟨r4, s4⟩ := r4
        obtain ⟨A5, y5⟩ : ∃ A, A4 ++ P2 = A := ⟨_, rfl⟩
        have r5 : ¬ (9223372036854775807 < A4.size + P2.size) ∧ A5.size = A4.size + P2.size := by
          have e : A5.size = A4.size + P2.size := by rw [← y5, ByteArray.size_append]
          exact ⟨by omega, e⟩
        obtain ⟨r5, s5⟩ := r5
        obtain ⟨A6, y6⟩ : ∃ A, A5 ++ (⟨#[44, 34, 116, 114, 105, 101, 115, 34, 58]⟩ : ByteArray) = A := ⟨_, rfl⟩
        have r6 : ¬ (9223372036854775807 < A5.size + 9) ∧ A6.size = A5.size + 9 := by
          have e : A6.size = A5.size + 9 := by rw [← y6, ByteArray.size_append]; rfl
          exact ⟨by omega, e⟩
        obtain ⟨r6, s6⟩ := r6
        obtain ⟨A7, y7⟩ : ∃ A, A6 ++ P3 = A := ⟨_, rfl⟩
        have r7 : ¬ (9223372036854775807 < A6.size + P3.size) ∧ A7.size = A6.size + P3.size := by
          have e : A7.size = A6.size + P3.size := by rw [← y7, ByteArray.size_append]
          exact ⟨by omega, e⟩
        obtain ⟨r7, s7⟩ := r7
        obtain ⟨A8, y8⟩ : ∃ A, A7 ++ (⟨#[44, 34, 116, 97, 103, 34, 58]⟩ : ByteArray) = A := ⟨_, rfl⟩
        have r8 : ¬ (9223372036854775807 < A7.size + 7) ∧ A8.size = A7.size + 7 := by
          have e : A8.size = A7.size + 7 := by rw [← y8, ByteArray.size_append]; rfl
          exact ⟨by omega, e⟩
        obtain ⟨r8, s8⟩ := r8
        obtain ⟨A9, y9⟩ : ∃ A, A8 ++ P4 = A := ⟨_, rfl⟩
        have r9 : ¬ (9223372036854775807 < A8.size + P4.size) ∧ A9.size = A8.size + P4.size := by
          have e : A9.size = A8.size + P4.size := by rw [← y9, ByteArray.size_append]
          exact ⟨by omega, e⟩
        obtain ⟨r9, s9⟩ := r9
        obtain ⟨A10, y10⟩ : ∃ A, A9 ++ (⟨#[125]⟩ : ByteArray) = A := ⟨_, rfl⟩
        have r10 : ¬ (9223372036854775807 < A9.size + 1) ∧ A10.size = A9.size + 1 := by
          have e : A10.size = A9.size + 1 := by rw [← y10, ByteArray.size_append]; rfl
          exact ⟨by omega, e⟩
        obtain ⟨r10, s10⟩ := r10
        have hR : baL (jobJ x) = A10 := by
          rw [← y10, ← y9, ← y8, ← y7, ← y6, ← y5, ← y4, ← y3, ← y2, ← y1]
          rw [← e0, ← e1, ← e2, ← e3, ← e4]
          simp only [show (⟨#[123, 34, 110, 97, 109, 101, 34, 58]⟩ : ByteArray) = baL [123, 34, 110, 97, 109, 101, 34, 58] from rfl, show (⟨#[44, 34, 112, 114, 105, 111, 34, 58]⟩ : ByteArray) = baL [44, 34, 112, 114, 105, 111, 34, 58] from rfl, show (⟨#[44, 34, 110, 101, 101, 100, 34, 58]⟩ : ByteArray) = baL [44, 34, 110, 101, 101, 100, 34, 58] from rfl, show (⟨#[44, 34, 116, 114, 105, 101, 115, 34, 58]⟩ : ByteArray) = baL [44, 34, 116, 114, 105, 101, 115, 34, 58] from rfl, show (⟨#[44, 34, 116, 97, 103, 34, 58]⟩ : ByteArray) = baL [44, 34, 116, 97, 103, 34, 58] from rfl, show (⟨#[125]⟩ : ByteArray) = baL [125] from rfl]
          simp only [← baL_app]
          congr 1
          simp [jobJ, quoteB]
        have H63 : Hid (i + 1 ≤ maxLen) := by show _ ≤ _; unfold maxLen; omega
        have HBY : Hid ((i + 1) * 16 ≤ 140737488355328) := by show _ ≤ _; omega
        rw [hR] at hstep
        have HST := Lib.hid hstep
        have HOX := Lib.hid hownX
        have HLO := Lib.hid hlow
        have H0 := Lib.hid C0
        have H1 := Lib.hid C1
        have H2 := Lib.hid C2
        have H3 := Lib.hid C3
        have H4 := Lib.hid C4
        clear q bA hxi hx hstep hR hown hownX hlow e0 e1 e2 e3 e4 s1 s2 s3 s4 s5 s6 s7 s8 s9 s10 C0 C1 C2 C3 C4
        go_wp2_with fail
        go_region_held3 (fun w' => (w'.cell? ⟨wr.heap.size, 0, none⟩ = some (.string x.name) ∧ w'.cell? ⟨wr.heap.size, 1, none⟩ = some (.int .i64 x.prio) ∧ w'.cell? ⟨wr.heap.size, 2, none⟩ = some (.int .i64 x.need) ∧ w'.cell? ⟨wr.heap.size, 3, none⟩ = some (.int .i64 x.tries) ∧ w'.cell? ⟨wr.heap.size, 4, none⟩ = some (.string x.tag)) ∧ wr.heap.size < w'.heap.size ∧ Below W1.heap.size W1 w') (first | assumption | exact ⟨o1.1, o1.2.1, o1.2.2.drew⟩ | exact jheld5 (W := W1) (below_one _ _) t4) (first
          | (go_at_call 60; (with_reducible refine (H0.out _).mono ?_); rintro e x0 ⟨rfl, c0⟩; have t0 := jheld5 (W := W1) c0 ⟨o1.1, o1.2.1, o1.2.2.drew⟩; have u0 := jown_next (HOX.out) c0)
          | (go_at_call 63; (with_reducible refine (H1.out _).mono ?_); rintro e x1 ⟨rfl, c1⟩; have t1 := jheld5 (W := W1) c1 t0; have u1 := jown_next (u0) c1)
          | (go_at_call 63; (with_reducible refine (H2.out _).mono ?_); rintro e x2 ⟨rfl, c2⟩; have t2 := jheld5 (W := W1) c2 t1; have u2 := jown_next (u1) c2)
          | (go_at_call 63; (with_reducible refine (H3.out _).mono ?_); rintro e x3 ⟨rfl, c3⟩; have t3 := jheld5 (W := W1) c3 t2; have u3 := jown_next (u2) c3)
          | (go_at_call 60; (with_reducible refine (H4.out _).mono ?_); rintro e x4 ⟨rfl, c4⟩; have t4 := jheld5 (W := W1) c4 t3; have u4 := jown_next (u3) c4)
          | (refine step_app rfl _ _ 102 rfl W1.heap.size 9 i0 _ 1 16 Tryz.underlying102 Hi.out Hz0.out Hz1.out Hz2.out rfl Nat.zero_lt_one _ i _ rfl (u4.alloc _) (some ⟨x4.heap.size, 0, none⟩) 1 1 [.string A10] rfl rfl (fun j u h => ⟨_, rfl, str_new x4 A10 _ j u h⟩) (str_one A10) H63.out HBY.out (base_le t4.2.2) ?_; intro v3 w3 own3 hg3 _; have s9 := japp5 t4 hg3 HLO.out))
        have own4 : w3.ownsRow W1.heap.size 9 1 v3 (i + 1) (strsV ((s.jobs.take (i + 1)).map fun x => baL (jobJ x))) := by rw [HST.out]; unfold strsV; rw [List.map_append]; simpa [strsV] using own3
        have b9 := s9.2.2
        clear own3 hg3 s9
        go_wp2
        go_roundw
        case rel => exact ⟨i + 1, by simp, by omega, own4, b9⟩
        case measure => simp [intOf]; omega
      · obtain rfl : i = s.jobs.length := by omega
        rw [List.take_length] at hown
        have hl1 : (s.jobs.map fun x => baL (jobJ x)).length = s.jobs.length := List.length_map _
        obtain ⟨p1, c1, rfl, hat1⟩ := strs_at hown hl1.symm
        have A1 : Hid (StrsAt wr p1 c1 (s.jobs.map fun x => baL (jobJ x))) := hat1
        have bq := hbr.size
        have f0 : wr.cell? ⟨w.heap.size, 0, none⟩ = some (.int .i64 s.rev) := by rw [hbr.cell (p := ⟨w.heap.size, 0, none⟩) hq1]; exact f0
        have f2 : wr.cell? ⟨w.heap.size, 2, none⟩ = some (.slice an s.nodes.length cn) := by rw [hbr.cell (p := ⟨w.heap.size, 2, none⟩) hq1]; exact f2
        have f3 : wr.cell? ⟨w.heap.size, 3, none⟩ = some (.slice al s.leases.length cl) := by rw [hbr.cell (p := ⟨w.heap.size, 3, none⟩) hq1]; exact f3
        have hq2 : w.heap.size < wr.heap.size := Nat.lt_of_lt_of_le hq1 hbr.size
        have B2 := Lib.hid (below_trans B1.out hbr B1.out.size)
        have M2 := Lib.hid (And.intro (jobsAt_next M1.out.1 hbr) (And.intro (nodesAt_next M1.out.2.1 hbr) (leasesAt_next M1.out.2.2 hbr)))
        clear hown hat1 hbr h hi
        obtain ⟨W2, hW2⟩ : ∃ V, V = wr := ⟨_, rfl⟩
        subst hW2
        go_wp2_with fail
        go_loopw [6, 58] (fun fv iv wr => ∃ i : Nat, iv = .int .i64 (i : Int) ∧ i ≤ s.nodes.length ∧ wr.ownsRow W2.heap.size 9 1 fv i (strsV ((s.nodes.take i).map fun x => baL (nodeJ x))) ∧ Below W2.heap.size W2 wr) (fun _ iv _ => s.nodes.length - (intOf iv).toNat)
        case atStart => exact ⟨0, rfl, Nat.zero_le _, World.ownsRow_nil _ _ _ _, Below.refl _ _⟩
        case round =>
          obtain ⟨i, rfl, hi, hown, hbr⟩ := hrel
          by_cases h : (i : Int) < (s.nodes.length : Int)
          · have hil : i < s.nodes.length := by omega
            obtain ⟨a, rfl, hal, k0, k1, k2⟩ := nodesAt_next M2.out.2.1 hbr i hil
            obtain ⟨x, hxi⟩ : ∃ x, s.nodes[i] = x := ⟨_, rfl⟩
            rw [hxi] at k0 k1 k2
            have hx := valid_node HV.out (show x ∈ s.nodes from hxi ▸ List.getElem_mem hil)
            obtain ⟨Wx, hWx⟩ : ∃ Wx, wr.alloc (.cells #[.string x.name, .int .i64 x.room, .string x.zone] 54) = Wx := ⟨_, rfl⟩
            have q := box_new3 wr (.string x.name) (.int .i64 x.room) (.string x.zone) 54
            have bA := below_one wr (.cells #[.string x.name, .int .i64 x.room, .string x.zone] 54)
            rw [hWx] at q bA
            have o1 : (Wx.cell? ⟨wr.heap.size, 0, none⟩ = some (.string x.name) ∧ Wx.cell? ⟨wr.heap.size, 1, none⟩ = some (.int .i64 x.room) ∧ Wx.cell? ⟨wr.heap.size, 2, none⟩ = some (.string x.zone)) ∧ wr.heap.size < Wx.heap.size ∧ Below W2.heap.size W2 Wx := ⟨⟨q.1 0 _ rfl, q.1 1 _ rfl, q.1 2 _ rfl⟩, q.2, below_trans hbr bA hbr.size⟩
            have hownX := jown_next (jown_next hown bA) ((Below.refl _ Wx).drew)
            have hlow : ∀ kk, Value.ownBlock _ = some kk → W2.heap.size ≤ kk ∧ kk < wr.heap.size := fun kk hk => hown.lt kk hk
            have hstep : (s.nodes.take (i + 1)).map (fun x => baL (nodeJ x)) = (s.nodes.take i).map (fun x => baL (nodeJ x)) ++ [baL (nodeJ x)] := by
              rw [List.take_succ_eq_append_getElem hil, List.map_append, hxi]; rfl
            have C0 := fun w' => rquote_is x.name (by have := hx.1; omega) w'
            have z0 := qd_size x.name hx.1
            obtain ⟨P0, e0⟩ : ∃ P, baL (quoteL x.name.data.toList) = P := ⟨_, rfl⟩
            rw [e0] at C0 z0
            have C1 := fun w' => rdig_is x.room hx.2.1 w'
            have z1 := dg_size x.room hx.2.1
            obtain ⟨P1, e1⟩ : ∃ P, baL (digZ x.room) = P := ⟨_, rfl⟩
            rw [e1] at C1 z1
            have C2 := fun w' => rquote_is x.zone (by have := hx.2.2; omega) w'
            have z2 := qd_size x.zone hx.2.2
            obtain ⟨P2, e2⟩ : ∃ P, baL (quoteL x.zone.data.toList) = P := ⟨_, rfl⟩
            rw [e2] at C2 z2
            obtain ⟨A1, y1⟩ : ∃ A, (⟨#[123, 34, 110, 97, 109, 101, 34, 58]⟩ : ByteArray) ++ P0 = A := ⟨_, rfl⟩
            have r1 : ¬ (9223372036854775807 < 8 + P0.size) ∧ A1.size = 8 + P0.size := by
              have e : A1.size = 8 + P0.size := by rw [← y1, ByteArray.size_append]; rfl
              exact ⟨by omega, e⟩
            obtain ⟨r1, s1⟩ := r1
            obtain ⟨A2, y2⟩ : ∃ A, A1 ++ (⟨#[44, 34, 114, 111, 111, 109, 34, 58]⟩ : ByteArray) = A := ⟨_, rfl⟩
            have r2 : ¬ (9223372036854775807 < A1.size + 8) ∧ A2.size = A1.size + 8 := by
              have e : A2.size = A1.size + 8 := by rw [← y2, ByteArray.size_append]; rfl
              exact ⟨by omega, e⟩
            obtain ⟨r2, s2⟩ := r2
            obtain ⟨A3, y3⟩ : ∃ A, A2 ++ P1 = A := ⟨_, rfl⟩
            have r3 : ¬ (9223372036854775807 < A2.size + P1.size) ∧ A3.size = A2.size + P1.size := by
              have e : A3.size = A2.size + P1.size := by rw [← y3, ByteArray.size_append]
              exact ⟨by omega, e⟩
            obtain ⟨r3, s3⟩ := r3
            obtain ⟨A4, y4⟩ : ∃ A, A3 ++ (⟨#[44, 34, 122, 111, 110, 101, 34, 58]⟩ : ByteArray) = A := ⟨_, rfl⟩
            have r4 : ¬ (9223372036854775807 < A3.size + 8) ∧ A4.size = A3.size + 8 := by
              have e : A4.size = A3.size + 8 := by rw [← y4, ByteArray.size_append]; rfl
              exact ⟨by omega, e⟩
            obtain ⟨r4, s4⟩ := r4
            obtain ⟨A5, y5⟩ : ∃ A, A4 ++ P2 = A := ⟨_, rfl⟩
            have r5 : ¬ (9223372036854775807 < A4.size + P2.size) ∧ A5.size = A4.size + P2.size := by
              have e : A5.size = A4.size + P2.size := by rw [← y5, ByteArray.size_append]
              exact ⟨by omega, e⟩
            obtain ⟨r5, s5⟩ := r5
            obtain ⟨A6, y6⟩ : ∃ A, A5 ++ (⟨#[125]⟩ : ByteArray) = A := ⟨_, rfl⟩
            have r6 : ¬ (9223372036854775807 < A5.size + 1) ∧ A6.size = A5.size + 1 := by
              have e : A6.size = A5.size + 1 := by rw [← y6, ByteArray.size_append]; rfl
              exact ⟨by omega, e⟩
            obtain ⟨r6, s6⟩ := r6
            have hR : baL (nodeJ x) = A6 := by
              rw [← y6, ← y5, ← y4, ← y3, ← y2, ← y1]
              rw [← e0, ← e1, ← e2]
              simp only [show (⟨#[123, 34, 110, 97, 109, 101, 34, 58]⟩ : ByteArray) = baL [123, 34, 110, 97, 109, 101, 34, 58] from rfl, show (⟨#[44, 34, 114, 111, 111, 109, 34, 58]⟩ : ByteArray) = baL [44, 34, 114, 111, 111, 109, 34, 58] from rfl, show (⟨#[44, 34, 122, 111, 110, 101, 34, 58]⟩ : ByteArray) = baL [44, 34, 122, 111, 110, 101, 34, 58] from rfl, show (⟨#[125]⟩ : ByteArray) = baL [125] from rfl]
              simp only [← baL_app]
              congr 1
              simp [nodeJ, quoteB]
            have H63 : Hid (i + 1 ≤ maxLen) := by show _ ≤ _; unfold maxLen; omega
            have HBY : Hid ((i + 1) * 16 ≤ 140737488355328) := by show _ ≤ _; omega
            rw [hR] at hstep
            have HST := Lib.hid hstep
            have HOX := Lib.hid hownX
            have HLO := Lib.hid hlow
            have H0 := Lib.hid C0
            have H1 := Lib.hid C1
            have H2 := Lib.hid C2
            clear q bA hxi hx hstep hR hown hownX hlow e0 e1 e2 s1 s2 s3 s4 s5 s6 C0 C1 C2
            go_wp2_with fail
            go_region_held3 (fun w' => (w'.cell? ⟨wr.heap.size, 0, none⟩ = some (.string x.name) ∧ w'.cell? ⟨wr.heap.size, 1, none⟩ = some (.int .i64 x.room) ∧ w'.cell? ⟨wr.heap.size, 2, none⟩ = some (.string x.zone)) ∧ wr.heap.size < w'.heap.size ∧ Below W2.heap.size W2 w') (first | assumption | exact ⟨o1.1, o1.2.1, o1.2.2.drew⟩ | exact jheld3 (W := W2) (below_one _ _) t2) (first
              | (go_at_call 60; (with_reducible refine (H0.out _).mono ?_); rintro e x0 ⟨rfl, c0⟩; have t0 := jheld3 (W := W2) c0 ⟨o1.1, o1.2.1, o1.2.2.drew⟩; have u0 := jown_next (HOX.out) c0)
              | (go_at_call 63; (with_reducible refine (H1.out _).mono ?_); rintro e x1 ⟨rfl, c1⟩; have t1 := jheld3 (W := W2) c1 t0; have u1 := jown_next (u0) c1)
              | (go_at_call 60; (with_reducible refine (H2.out _).mono ?_); rintro e x2 ⟨rfl, c2⟩; have t2 := jheld3 (W := W2) c2 t1; have u2 := jown_next (u1) c2)
              | (refine step_app rfl _ _ 102 rfl W2.heap.size 9 i0 _ 1 16 Tryz.underlying102 Hi.out Hz0.out Hz1.out Hz2.out rfl Nat.zero_lt_one _ i _ rfl (u2.alloc _) (some ⟨x2.heap.size, 0, none⟩) 1 1 [.string A6] rfl rfl (fun j u h => ⟨_, rfl, str_new x2 A6 _ j u h⟩) (str_one A6) H63.out HBY.out (base_le t2.2.2) ?_; intro v3 w3 own3 hg3 _; have s9 := japp3 t2 hg3 HLO.out))
            have own4 : w3.ownsRow W2.heap.size 9 1 v3 (i + 1) (strsV ((s.nodes.take (i + 1)).map fun x => baL (nodeJ x))) := by rw [HST.out]; unfold strsV; rw [List.map_append]; simpa [strsV] using own3
            have b9 := s9.2.2
            clear own3 hg3 s9
            go_wp2
            go_roundw
            case rel => exact ⟨i + 1, by simp, by omega, own4, b9⟩
            case measure => simp [intOf]; omega
          · obtain rfl : i = s.nodes.length := by omega
            rw [List.take_length] at hown
            have hl2 : (s.nodes.map fun x => baL (nodeJ x)).length = s.nodes.length := List.length_map _
            obtain ⟨p2, c2, rfl, hat2⟩ := strs_at hown hl2.symm
            have A2 : Hid (StrsAt wr p2 c2 (s.nodes.map fun x => baL (nodeJ x))) := hat2
            have A1 := Lib.hid (strsAt_next A1.out hbr)
            have bq := hbr.size
            have f0 : wr.cell? ⟨w.heap.size, 0, none⟩ = some (.int .i64 s.rev) := by rw [hbr.cell (p := ⟨w.heap.size, 0, none⟩) hq2]; exact f0
            have f3 : wr.cell? ⟨w.heap.size, 3, none⟩ = some (.slice al s.leases.length cl) := by rw [hbr.cell (p := ⟨w.heap.size, 3, none⟩) hq2]; exact f3
            have hq3 : w.heap.size < wr.heap.size := Nat.lt_of_lt_of_le hq2 hbr.size
            have B3 := Lib.hid (below_trans B2.out hbr B2.out.size)
            have M3 := Lib.hid (And.intro (jobsAt_next M2.out.1 hbr) (And.intro (nodesAt_next M2.out.2.1 hbr) (leasesAt_next M2.out.2.2 hbr)))
            clear hown hat2 hbr h hi
            obtain ⟨W3, hW3⟩ : ∃ V, V = wr := ⟨_, rfl⟩
            subst hW3
            go_wp2_with fail
            go_loopw [7, 84] (fun fv iv wr => ∃ i : Nat, iv = .int .i64 (i : Int) ∧ i ≤ s.leases.length ∧ wr.ownsRow W3.heap.size 9 1 fv i (strsV ((s.leases.take i).map fun x => baL (leaseJ x))) ∧ Below W3.heap.size W3 wr) (fun _ iv _ => s.leases.length - (intOf iv).toNat)
            case atStart => exact ⟨0, rfl, Nat.zero_le _, World.ownsRow_nil _ _ _ _, Below.refl _ _⟩
            case round =>
              obtain ⟨i, rfl, hi, hown, hbr⟩ := hrel
              by_cases h : (i : Int) < (s.leases.length : Int)
              · have hil : i < s.leases.length := by omega
                obtain ⟨a, rfl, hal, k0, k1, k2⟩ := leasesAt_next M3.out.2.2 hbr i hil
                obtain ⟨x, hxi⟩ : ∃ x, s.leases[i] = x := ⟨_, rfl⟩
                rw [hxi] at k0 k1 k2
                have hx := valid_lease HV.out (show x ∈ s.leases from hxi ▸ List.getElem_mem hil)
                obtain ⟨Wx, hWx⟩ : ∃ Wx, wr.alloc (.cells #[.string x.job, .string x.node, .int .i64 x.til] 56) = Wx := ⟨_, rfl⟩
                have q := box_new3 wr (.string x.job) (.string x.node) (.int .i64 x.til) 56
                have bA := below_one wr (.cells #[.string x.job, .string x.node, .int .i64 x.til] 56)
                rw [hWx] at q bA
                have o1 : (Wx.cell? ⟨wr.heap.size, 0, none⟩ = some (.string x.job) ∧ Wx.cell? ⟨wr.heap.size, 1, none⟩ = some (.string x.node) ∧ Wx.cell? ⟨wr.heap.size, 2, none⟩ = some (.int .i64 x.til)) ∧ wr.heap.size < Wx.heap.size ∧ Below W3.heap.size W3 Wx := ⟨⟨q.1 0 _ rfl, q.1 1 _ rfl, q.1 2 _ rfl⟩, q.2, below_trans hbr bA hbr.size⟩
                have hownX := jown_next (jown_next hown bA) ((Below.refl _ Wx).drew)
                have hlow : ∀ kk, Value.ownBlock _ = some kk → W3.heap.size ≤ kk ∧ kk < wr.heap.size := fun kk hk => hown.lt kk hk
                have hstep : (s.leases.take (i + 1)).map (fun x => baL (leaseJ x)) = (s.leases.take i).map (fun x => baL (leaseJ x)) ++ [baL (leaseJ x)] := by
                  rw [List.take_succ_eq_append_getElem hil, List.map_append, hxi]; rfl
                have C0 := fun w' => rquote_is x.job (by have := hx.1; omega) w'
                have z0 := qd_size x.job hx.1
                obtain ⟨P0, e0⟩ : ∃ P, baL (quoteL x.job.data.toList) = P := ⟨_, rfl⟩
                rw [e0] at C0 z0
                have C1 := fun w' => rquote_is x.node (by have := hx.2.1; omega) w'
                have z1 := qd_size x.node hx.2.1
                obtain ⟨P1, e1⟩ : ∃ P, baL (quoteL x.node.data.toList) = P := ⟨_, rfl⟩
                rw [e1] at C1 z1
                have C2 := fun w' => rdig_is x.til hx.2.2 w'
                have z2 := dg_size x.til hx.2.2
                obtain ⟨P2, e2⟩ : ∃ P, baL (digZ x.til) = P := ⟨_, rfl⟩
                rw [e2] at C2 z2
                obtain ⟨A1, y1⟩ : ∃ A, (⟨#[123, 34, 106, 111, 98, 34, 58]⟩ : ByteArray) ++ P0 = A := ⟨_, rfl⟩
                have r1 : ¬ (9223372036854775807 < 7 + P0.size) ∧ A1.size = 7 + P0.size := by
                  have e : A1.size = 7 + P0.size := by rw [← y1, ByteArray.size_append]; rfl
                  exact ⟨by omega, e⟩
                obtain ⟨r1, s1⟩ := r1
                obtain ⟨A2, y2⟩ : ∃ A, A1 ++ (⟨#[44, 34, 110, 111, 100, 101, 34, 58]⟩ : ByteArray) = A := ⟨_, rfl⟩
                have r2 : ¬ (9223372036854775807 < A1.size + 8) ∧ A2.size = A1.size + 8 := by
                  have e : A2.size = A1.size + 8 := by rw [← y2, ByteArray.size_append]; rfl
                  exact ⟨by omega, e⟩
                obtain ⟨r2, s2⟩ := r2
                obtain ⟨A3, y3⟩ : ∃ A, A2 ++ P1 = A := ⟨_, rfl⟩
                have r3 : ¬ (9223372036854775807 < A2.size + P1.size) ∧ A3.size = A2.size + P1.size := by
                  have e : A3.size = A2.size + P1.size := by rw [← y3, ByteArray.size_append]
                  exact ⟨by omega, e⟩
                obtain ⟨r3, s3⟩ := r3
                obtain ⟨A4, y4⟩ : ∃ A, A3 ++ (⟨#[44, 34, 117, 110, 116, 105, 108, 34, 58]⟩ : ByteArray) = A := ⟨_, rfl⟩
                have r4 : ¬ (9223372036854775807 < A3.size + 9) ∧ A4.size = A3.size + 9 := by
                  have e : A4.size = A3.size + 9 := by rw [← y4, ByteArray.size_append]; rfl
                  exact ⟨by omega, e⟩
                obtain ⟨r4, s4⟩ := r4
                obtain ⟨A5, y5⟩ : ∃ A, A4 ++ P2 = A := ⟨_, rfl⟩
                have r5 : ¬ (9223372036854775807 < A4.size + P2.size) ∧ A5.size = A4.size + P2.size := by
                  have e : A5.size = A4.size + P2.size := by rw [← y5, ByteArray.size_append]
                  exact ⟨by omega, e⟩
                obtain ⟨r5, s5⟩ := r5
                obtain ⟨A6, y6⟩ : ∃ A, A5 ++ (⟨#[125]⟩ : ByteArray) = A := ⟨_, rfl⟩
                have r6 : ¬ (9223372036854775807 < A5.size + 1) ∧ A6.size = A5.size + 1 := by
                  have e : A6.size = A5.size + 1 := by rw [← y6, ByteArray.size_append]; rfl
                  exact ⟨by omega, e⟩
                obtain ⟨r6, s6⟩ := r6
                have hR : baL (leaseJ x) = A6 := by
                  rw [← y6, ← y5, ← y4, ← y3, ← y2, ← y1]
                  rw [← e0, ← e1, ← e2]
                  simp only [show (⟨#[123, 34, 106, 111, 98, 34, 58]⟩ : ByteArray) = baL [123, 34, 106, 111, 98, 34, 58] from rfl, show (⟨#[44, 34, 110, 111, 100, 101, 34, 58]⟩ : ByteArray) = baL [44, 34, 110, 111, 100, 101, 34, 58] from rfl, show (⟨#[44, 34, 117, 110, 116, 105, 108, 34, 58]⟩ : ByteArray) = baL [44, 34, 117, 110, 116, 105, 108, 34, 58] from rfl, show (⟨#[125]⟩ : ByteArray) = baL [125] from rfl]
                  simp only [← baL_app]
                  congr 1
                  simp [leaseJ, quoteB]
                have H63 : Hid (i + 1 ≤ maxLen) := by show _ ≤ _; unfold maxLen; omega
                have HBY : Hid ((i + 1) * 16 ≤ 140737488355328) := by show _ ≤ _; omega
                rw [hR] at hstep
                have HST := Lib.hid hstep
                have HOX := Lib.hid hownX
                have HLO := Lib.hid hlow
                have H0 := Lib.hid C0
                have H1 := Lib.hid C1
                have H2 := Lib.hid C2
                clear q bA hxi hx hstep hR hown hownX hlow e0 e1 e2 s1 s2 s3 s4 s5 s6 C0 C1 C2
                go_wp2_with fail
                go_region_held3 (fun w' => (w'.cell? ⟨wr.heap.size, 0, none⟩ = some (.string x.job) ∧ w'.cell? ⟨wr.heap.size, 1, none⟩ = some (.string x.node) ∧ w'.cell? ⟨wr.heap.size, 2, none⟩ = some (.int .i64 x.til)) ∧ wr.heap.size < w'.heap.size ∧ Below W3.heap.size W3 w') (first | assumption | exact ⟨o1.1, o1.2.1, o1.2.2.drew⟩ | exact jheld3 (W := W3) (below_one _ _) t2) (first
                  | (go_at_call 60; (with_reducible refine (H0.out _).mono ?_); rintro e x0 ⟨rfl, c0⟩; have t0 := jheld3 (W := W3) c0 ⟨o1.1, o1.2.1, o1.2.2.drew⟩; have u0 := jown_next (HOX.out) c0)
                  | (go_at_call 60; (with_reducible refine (H1.out _).mono ?_); rintro e x1 ⟨rfl, c1⟩; have t1 := jheld3 (W := W3) c1 t0; have u1 := jown_next (u0) c1)
                  | (go_at_call 63; (with_reducible refine (H2.out _).mono ?_); rintro e x2 ⟨rfl, c2⟩; have t2 := jheld3 (W := W3) c2 t1; have u2 := jown_next (u1) c2)
                  | (refine step_app rfl _ _ 102 rfl W3.heap.size 9 i0 _ 1 16 Tryz.underlying102 Hi.out Hz0.out Hz1.out Hz2.out rfl Nat.zero_lt_one _ i _ rfl (u2.alloc _) (some ⟨x2.heap.size, 0, none⟩) 1 1 [.string A6] rfl rfl (fun j u h => ⟨_, rfl, str_new x2 A6 _ j u h⟩) (str_one A6) H63.out HBY.out (base_le t2.2.2) ?_; intro v3 w3 own3 hg3 _; have s9 := japp3 t2 hg3 HLO.out))
                have own4 : w3.ownsRow W3.heap.size 9 1 v3 (i + 1) (strsV ((s.leases.take (i + 1)).map fun x => baL (leaseJ x))) := by rw [HST.out]; unfold strsV; rw [List.map_append]; simpa [strsV] using own3
                have b9 := s9.2.2
                clear own3 hg3 s9
                go_wp2
                go_roundw
                case rel => exact ⟨i + 1, by simp, by omega, own4, b9⟩
                case measure => simp [intOf]; omega
              · obtain rfl : i = s.leases.length := by omega
                rw [List.take_length] at hown
                have hl3 : (s.leases.map fun x => baL (leaseJ x)).length = s.leases.length := List.length_map _
                obtain ⟨p3, c3, rfl, hat3⟩ := strs_at hown hl3.symm
                have A3 : Hid (StrsAt wr p3 c3 (s.leases.map fun x => baL (leaseJ x))) := hat3
                have A1 := Lib.hid (strsAt_next A1.out hbr)
                have A2 := Lib.hid (strsAt_next A2.out hbr)
                have bq := hbr.size
                have f0 : wr.cell? ⟨w.heap.size, 0, none⟩ = some (.int .i64 s.rev) := by rw [hbr.cell (p := ⟨w.heap.size, 0, none⟩) hq3]; exact f0
                have hq4 : w.heap.size < wr.heap.size := Nat.lt_of_lt_of_le hq3 hbr.size
                have B4 := Lib.hid (below_trans B3.out hbr B3.out.size)
                clear hown hat3 hbr h hi
                obtain ⟨W4, hW4⟩ : ∃ V, V = wr := ⟨_, rfl⟩
                subst hW4
                have hr18 : small18 s.rev := by have := HV.out.1; exact ⟨by omega, by omega⟩
                have C0 := Lib.hid (fun w' => rdig_is s.rev hr18 w')
                have C1 : Hid (∀ w', StrsAt w' p1 c1 (s.jobs.map fun x => baL (jobJ x)) → Calls Tryz.prog 64 #[.slice p1 s.jobs.length c1, .string ⟨#[44]⟩] w' fun e w2 => e = .returned (.string (baL (Lib.join (s.jobs.map jobJ) [44]))) ∧ Below w'.heap.size w' w2) := by
                  intro w' h'
                  have hsz : ∀ y ∈ s.jobs.map (fun x => baL (jobJ x)), y.size ≤ 1000000 := by
                    intro y hy
                    obtain ⟨x, hx, rfl⟩ := List.mem_map.1 hy
                    rw [baL_size]
                    have := jobJ_len (valid_job HV.out hx)
                    omega
                  have := join_is p1 c1 (s.jobs.map fun x => baL (jobJ x)) (by omega) hsz w' h'
                  rw [hl1, show (s.jobs.map fun x => baL (jobJ x)).map (·.data.toList) = s.jobs.map jobJ by rw [List.map_map]; rfl] at this
                  exact this
                have jl1 := join_list jobJ s.jobs
                have ll1 := list_len (g := jobJ) (k := 300) s.jobs (fun x hx => jobJ_len (valid_job HV.out hx))
                have z1 : (baL (Lib.join (s.jobs.map jobJ) [44])).size ≤ 100000 := by
                  rw [baL_size]
                  have := congrArg List.length jl1
                  rw [List.length_append] at this
                  simp only [List.length_cons, List.length_nil] at this
                  omega
                have C2 : Hid (∀ w', StrsAt w' p2 c2 (s.nodes.map fun x => baL (nodeJ x)) → Calls Tryz.prog 64 #[.slice p2 s.nodes.length c2, .string ⟨#[44]⟩] w' fun e w2 => e = .returned (.string (baL (Lib.join (s.nodes.map nodeJ) [44]))) ∧ Below w'.heap.size w' w2) := by
                  intro w' h'
                  have hsz : ∀ y ∈ s.nodes.map (fun x => baL (nodeJ x)), y.size ≤ 1000000 := by
                    intro y hy
                    obtain ⟨x, hx, rfl⟩ := List.mem_map.1 hy
                    rw [baL_size]
                    have := nodeJ_len (valid_node HV.out hx)
                    omega
                  have := join_is p2 c2 (s.nodes.map fun x => baL (nodeJ x)) (by omega) hsz w' h'
                  rw [hl2, show (s.nodes.map fun x => baL (nodeJ x)).map (·.data.toList) = s.nodes.map nodeJ by rw [List.map_map]; rfl] at this
                  exact this
                have jl2 := join_list nodeJ s.nodes
                have ll2 := list_len (g := nodeJ) (k := 300) s.nodes (fun x hx => nodeJ_len (valid_node HV.out hx))
                have z2 : (baL (Lib.join (s.nodes.map nodeJ) [44])).size ≤ 100000 := by
                  rw [baL_size]
                  have := congrArg List.length jl2
                  rw [List.length_append] at this
                  simp only [List.length_cons, List.length_nil] at this
                  omega
                have C3 : Hid (∀ w', StrsAt w' p3 c3 (s.leases.map fun x => baL (leaseJ x)) → Calls Tryz.prog 64 #[.slice p3 s.leases.length c3, .string ⟨#[44]⟩] w' fun e w2 => e = .returned (.string (baL (Lib.join (s.leases.map leaseJ) [44]))) ∧ Below w'.heap.size w' w2) := by
                  intro w' h'
                  have hsz : ∀ y ∈ s.leases.map (fun x => baL (leaseJ x)), y.size ≤ 1000000 := by
                    intro y hy
                    obtain ⟨x, hx, rfl⟩ := List.mem_map.1 hy
                    rw [baL_size]
                    have := leaseJ_len (valid_lease HV.out hx)
                    omega
                  have := join_is p3 c3 (s.leases.map fun x => baL (leaseJ x)) (by omega) hsz w' h'
                  rw [hl3, show (s.leases.map fun x => baL (leaseJ x)).map (·.data.toList) = s.leases.map leaseJ by rw [List.map_map]; rfl] at this
                  exact this
                have jl3 := join_list leaseJ s.leases
                have ll3 := list_len (g := leaseJ) (k := 300) s.leases (fun x hx => leaseJ_len (valid_lease HV.out hx))
                have z3 : (baL (Lib.join (s.leases.map leaseJ) [44])).size ≤ 100000 := by
                  rw [baL_size]
                  have := congrArg List.length jl3
                  rw [List.length_append] at this
                  simp only [List.length_cons, List.length_nil] at this
                  omega
                have z0 := dg_size s.rev hr18
                have hFin : baL (stJ s) = (⟨#[123, 34, 114, 101, 118, 34, 58]⟩ : ByteArray) ++ baL (digZ s.rev) ++ ⟨#[44, 34, 106, 111, 98, 115, 34, 58, 91]⟩ ++ baL (Lib.join (s.jobs.map jobJ) [44]) ++ ⟨#[93, 44, 34, 110, 111, 100, 101, 115, 34, 58, 91]⟩ ++ baL (Lib.join (s.nodes.map nodeJ) [44]) ++ ⟨#[93, 44, 34, 108, 101, 97, 115, 101, 115, 34, 58, 91]⟩ ++ baL (Lib.join (s.leases.map leaseJ) [44]) ++ ⟨#[93, 125]⟩ := by
                  simp only [show (⟨#[123, 34, 114, 101, 118, 34, 58]⟩ : ByteArray) = baL [123, 34, 114, 101, 118, 34, 58] from rfl, show (⟨#[44, 34, 106, 111, 98, 115, 34, 58, 91]⟩ : ByteArray) = baL [44, 34, 106, 111, 98, 115, 34, 58, 91] from rfl, show (⟨#[93, 44, 34, 110, 111, 100, 101, 115, 34, 58, 91]⟩ : ByteArray) = baL [93, 44, 34, 110, 111, 100, 101, 115, 34, 58, 91] from rfl, show (⟨#[93, 44, 34, 108, 101, 97, 115, 101, 115, 34, 58, 91]⟩ : ByteArray) = baL [93, 44, 34, 108, 101, 97, 115, 101, 115, 34, 58, 91] from rfl, show (⟨#[93, 125]⟩ : ByteArray) = baL [93, 125] from rfl]
                  simp only [← baL_app]
                  congr 1
                  unfold stJ
                  rw [← jl1, ← jl2, ← jl3]
                  simp
                obtain ⟨P0, e0⟩ : ∃ P, baL (digZ s.rev) = P := ⟨_, rfl⟩
                rw [e0] at C0 z0 hFin
                obtain ⟨P1, e1⟩ : ∃ P, baL (Lib.join (s.jobs.map jobJ) [44]) = P := ⟨_, rfl⟩
                rw [e1] at C1 z1 hFin
                obtain ⟨P2, e2⟩ : ∃ P, baL (Lib.join (s.nodes.map nodeJ) [44]) = P := ⟨_, rfl⟩
                rw [e2] at C2 z2 hFin
                obtain ⟨P3, e3⟩ : ∃ P, baL (Lib.join (s.leases.map leaseJ) [44]) = P := ⟨_, rfl⟩
                rw [e3] at C3 z3 hFin
                have HF := Lib.hid hFin
                clear hFin jl1 jl2 jl3 ll1 ll2 ll3 e0 e1 e2 e3 hr18
                go_wp2_with fail
                refine (C0.out _).mono ?_
                rintro e x0 ⟨rfl, g0⟩
                have J1 := Lib.hid (C1.out x0 (strsAt_next A1.out g0))
                have D0 := Lib.hid (below_trans B4.out g0 B4.out.size)
                have A2 := Lib.hid (strsAt_next A2.out g0)
                have A3 := Lib.hid (strsAt_next A3.out g0)
                clear g0 C0 C1 A1
                go_wp2_with fail
                refine J1.out.mono ?_
                rintro e x1 ⟨rfl, g1⟩
                have J2 := Lib.hid (C2.out x1 (strsAt_next A2.out g1))
                have D1 := Lib.hid (below_trans D0.out g1 D0.out.size)
                have A3 := Lib.hid (strsAt_next A3.out g1)
                clear g1 J1 C2 A2
                go_wp2_with fail
                refine J2.out.mono ?_
                rintro e x2 ⟨rfl, g2⟩
                have J3 := Lib.hid (C3.out x2 (strsAt_next A3.out g2))
                have D2 := Lib.hid (below_trans D1.out g2 D1.out.size)
                clear g2 J2 C3 A3
                go_wp2_with fail
                refine J3.out.mono ?_
                rintro e x3 ⟨rfl, g3⟩
                go_wp2
                go_ret2
                exact ⟨congrArg (fun z => Ending.returned (Value.tuple #[Value.string z, Value.int .i64 0])) HF.out.symm, below_trans D2.out g3 D2.out.size⟩
  · rw [pr_no hc]
    obtain ⟨R, hR⟩ : ∃ R, checkE V8 s = R := ⟨_, rfl⟩
    rw [hR] at HC hc ⊢
    have hne : ((R : Int) != 0) = true := by simp; omega
    clear hR mj mn ml
    go_enter Tryz.func25, Tryz.ntmps25
    go_wp2_with fail
    refine HC.out.mono ?_
    rintro e W1 ⟨rfl, b1⟩
    go_wp2
    go_ret2
    exact ⟨rfl, below_trans BW.out b1 BW.out.size⟩
end Go.Proofs.YthbgaphidojneaaGreatDoor
