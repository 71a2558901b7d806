/- The reference: Check at every state. -/
import Derived.Test.YtkdjpciegcofbaaDoorStRefRows
import Derived.Test.YtkdjpciegcofbaaDoorStRefUse
import Derived.Test.YtkdjpciegcofbaaDoorStCheck
namespace Go.Proofs.YtkdjpciegcofbaaDoor
open Go.RowKit

/-- What a region reads: the state's block and a node's block. -/
theorem rowS_chk {b p : Nat} {v0 v1 v2 v3 u0 u1 u2 : Value} {w w1 w2 : World} (b2 : Below w1.heap.size w1 w2)
    (h : ((w1.cell? ⟨b, 0, none⟩ = some v0 ∧ w1.cell? ⟨b, 1, none⟩ = some v1 ∧ w1.cell? ⟨b, 2, none⟩ = some v2 ∧ w1.cell? ⟨b, 3, none⟩ = some v3) ∧ (w1.cell? ⟨p, 0, none⟩ = some u0 ∧ w1.cell? ⟨p, 1, none⟩ = some u1 ∧ w1.cell? ⟨p, 2, none⟩ = some u2)) ∧ (b < w1.heap.size ∧ p < w1.heap.size) ∧ Below w.heap.size w w1) :
    ((w2.cell? ⟨b, 0, none⟩ = some v0 ∧ w2.cell? ⟨b, 1, none⟩ = some v1 ∧ w2.cell? ⟨b, 2, none⟩ = some v2 ∧ w2.cell? ⟨b, 3, none⟩ = some v3) ∧ (w2.cell? ⟨p, 0, none⟩ = some u0 ∧ w2.cell? ⟨p, 1, none⟩ = some u1 ∧ w2.cell? ⟨p, 2, none⟩ = some u2)) ∧ (b < w2.heap.size ∧ p < w2.heap.size) ∧ Below w.heap.size w w2 := by
  obtain ⟨⟨⟨c0, c1, c2, c3⟩, ⟨p0, p1, p2⟩⟩, ⟨h1, h2⟩, h3⟩ := h
  have hs := b2.size
  exact ⟨⟨⟨by rw [b2.cell (p := ⟨b, 0, none⟩) h1]; exact c0, by rw [b2.cell (p := ⟨b, 1, none⟩) h1]; exact c1, by rw [b2.cell (p := ⟨b, 2, none⟩) h1]; exact c2, by rw [b2.cell (p := ⟨b, 3, none⟩) h1]; exact c3⟩,
    ⟨by rw [b2.cell (p := ⟨p, 0, none⟩) h2]; exact p0, by rw [b2.cell (p := ⟨p, 1, none⟩) h2]; exact p1, by rw [b2.cell (p := ⟨p, 2, none⟩) h2]; exact p2⟩⟩, ⟨by omega, by omega⟩, below_trans h3 b2 h3.size⟩
theorem at_neg (r : Int) : decide (r < 0) = !decide (0 ≤ r) := by
  by_cases h : 0 ≤ r
  · simp [h]
  · simp [h]; omega
set_option maxRecDepth 100000 in
set_option maxHeartbeats 8000000 in
theorem rcheck_any (rev : Int) (aj an al : Option Addr) (cj cn cl : Nat) (jobs : List JobD) (nodes : List NodeD) (leases : List LeaseD) (w : World) (hmj : JobsAt w aj jobs) (hmn : NodesAt w an nodes) (hml : LeasesAt w al leases) :
    Calls Tryd.prog 12 #[.agg #[.int .i64 rev, .slice aj jobs.length cj, .slice an nodes.length cn, .slice al leases.length cl]] w fun e w' => e = .returned (.int .i64 (checkE V8 ⟨rev, jobs, nodes, leases⟩ : Nat)) ∧ Below w.heap.size w w' := by
  obtain ⟨R, hR⟩ : ∃ R, checkE V8 ⟨rev, jobs, nodes, leases⟩ = R := ⟨_, rfl⟩
  rw [hR]
  have HR := Lib.hid hR
  obtain ⟨c, hc⟩ : ∃ c, inR rev 0 1099511627776 = c := ⟨_, rfl⟩
  have G := Lib.hid (outside_is rev 0 1099511627776)
  rw [hc] at G
  have HC := Lib.hid hc
  obtain ⟨W, hW⟩ : ∃ W, w.alloc (.cells #[.int .i64 rev, .slice aj jobs.length cj, .slice an nodes.length cn, .slice al leases.length cl] 26) = W := ⟨_, rfl⟩
  have bW : Below w.heap.size w W := by rw [← hW]; exact below_one _ _
  have q := box_new4 w (.int .i64 rev) (.slice aj jobs.length cj) (.slice an nodes.length cn) (.slice al leases.length cl) 26
  rw [hW] at q
  have HMJ := Lib.hid hmj
  have HMN := Lib.hid hmn
  have HML := Lib.hid hml
  have k0 := q.1 0 _ rfl
  have k1 := q.1 1 _ rfl
  have k2 := q.1 2 _ rfl
  have k3 := q.1 3 _ rfl
  clear hR hc hmj hmn hml
  go_enter Tryd.func12, Tryd.ntmps12
  go_wp2_with fail
  refine (G.out _).mono ?_
  rintro e w0 ⟨rfl, rfl⟩
  cases c with
  | false =>
    have HR1 : Hid (R = 1) := HR.out.symm.trans (check_rev HC.out)
    go_wp2
    go_ret
    exact ⟨by rw [HR1.out]; rfl, bW⟩
  | true =>
  by_cases hj : ¬ jobs.length ≤ 40
  · have HR1 : Hid (R = 2) := HR.out.symm.trans (check_large HC.out (fun k => hj k.1))
    go_wp2
    go_ret
    exact ⟨by rw [HR1.out]; rfl, bW⟩
  have hj : jobs.length ≤ 40 := by omega
  by_cases hl : ¬ leases.length ≤ 40
  · have HR1 : Hid (R = 2) := HR.out.symm.trans (check_large HC.out (fun k => hl k.2.1))
    go_wp2
    go_ret
    exact ⟨by rw [HR1.out]; rfl, bW⟩
  have hl : leases.length ≤ 40 := by omega
  by_cases hn : ¬ nodes.length ≤ 20
  · have HR1 : Hid (R = 2) := HR.out.symm.trans (check_large HC.out (fun k => hn k.2.2))
    go_wp2
    go_ret
    exact ⟨by rw [HR1.out]; rfl, bW⟩
  have hn : nodes.length ≤ 20 := by omega
  have HR1 := Lib.hid (HR.out.symm.trans (check_rows HC.out ⟨hj, hl, hn⟩))
  clear HR HC G
  simp only at HR1
  have HJ := Lib.hid (jobsCheck_is jobs aj cj hj W (jobsAt_next HMJ.out bW))
  go_wp2_with fail
  refine HJ.out.mono ?_
  rintro e w1 ⟨rfl, b1⟩
  have q1 := box_next q b1
  have hb1 := below_trans bW b1 bW.size
  clear q k0 k1 k2 k3
  have k2 := q1.1 2 _ rfl
  obtain ⟨ej, hej⟩ : ∃ ej, rowsE (jobE V8) (·.name) none jobs = ej := ⟨_, rfl⟩
  have HEJ := Lib.hid hej
  rw [hej] at HR1 ⊢
  clear hej HJ
  by_cases h0 : ej ≠ 0
  · have HR2 : Hid (R = ej) := HR1.out.trans (orE_stop h0)
    have hc : ((ej : Int) != 0) = true := by simp; omega
    go_wp2
    go_ret
    exact ⟨by rw [HR2.out]; rfl, hb1⟩
  have h0 : ej = 0 := by simpa using h0
  subst h0
  have HR2 := Lib.hid (HR1.out.trans (orE_go _))
  clear HR1
  have HN := Lib.hid (nodesCheck_is nodes an cn (by omega) w1 (nodesAt_next HMN.out hb1))
  go_wp2_with fail
  refine HN.out.mono ?_
  rintro e w2 ⟨rfl, b2⟩
  have q2 := box_next q1 b2
  have hb2 := below_trans hb1 b2 hb1.size
  clear q1 k2
  have k3 := q2.1 3 _ rfl
  obtain ⟨en, hen⟩ : ∃ en, rowsE (nodeE V8) (·.name) none nodes = en := ⟨_, rfl⟩
  rw [hen] at HR2 ⊢
  clear hen HN
  by_cases h0 : en ≠ 0
  · have HR3 : Hid (R = en) := HR2.out.trans (orE_stop h0)
    have hc : ((en : Int) != 0) = true := by simp; omega
    go_wp2
    go_ret
    exact ⟨by rw [HR3.out]; rfl, hb2⟩
  have h0 : en = 0 := by simpa using h0
  subst h0
  have HR3 := Lib.hid (HR2.out.trans (orE_go _))
  clear HR2
  obtain ⟨RL, hRL⟩ : ∃ RL, rowsE (leaseE jobs nodes) (·.job) none leases = RL := ⟨_, rfl⟩
  have HRL : Hid (rowsE (leaseE jobs nodes) (·.job) (prevK (·.job) leases 0) (leases.drop 0) = RL) := hRL
  rw [hRL] at HR3
  have HZJ := Lib.hid ((rowsE_zero (jobE V8) (·.name) none jobs).1 HEJ.out).1
  clear hRL HEJ
  go_wp2
  go_loopw [43] (fun iv wr => ∃ (i : Nat), iv = .int .i64 (i : Int) ∧ i ≤ leases.length ∧ Box w.heap.size [.int .i64 rev, .slice aj jobs.length cj, .slice an nodes.length cn, .slice al leases.length cl] wr ∧ Below w.heap.size w wr ∧ Hid (rowsE (leaseE jobs nodes) (·.job) (prevK (·.job) leases i) (leases.drop i) = RL)) (fun iv _ => leases.length - (intOf iv).toNat)
  case atStart => exact ⟨0, rfl, by omega, q2, hb2, HRL⟩
  case round =>
    clear q2 hb2 k3 b2 b1 hb1 bW
    obtain ⟨i, rfl, hi, q, hbr, HS⟩ := hrel
    by_cases h : (i : Int) < (leases.length : Int)
    · have hil : i < leases.length := by omega
      obtain ⟨a, rfl, hal, m0, m1, m2⟩ := leasesAt_next HML.out hbr i hil
      obtain ⟨x, hxi⟩ : ∃ x, leases[i] = x := ⟨_, rfl⟩
      rw [hxi] at m0 m1 m2
      have Hxi := Lib.hid hxi
      have hbA := hbr.alloc hbr.size (.cells #[.string x.job, .string x.node, .int .i64 x.til] 48)
      have g1 := (box_alloc q (.cells #[.string x.job, .string x.node, .int .i64 x.til] 48)).1 1 _ rfl
      have HA := Lib.hid (jobAt_is jobs aj cj (by omega) x.job _ (jobsAt_next HMJ.out hbA))
      obtain ⟨c1, hc1⟩ : ∃ c, hasJob jobs x.job = c := ⟨_, rfl⟩
      obtain ⟨c2, hc2⟩ : ∃ c, hasNode nodes x.node = c := ⟨_, rfl⟩
      obtain ⟨d, hd⟩ : ∃ d, inR x.til 0 1099511627776 = d := ⟨_, rfl⟩
      have HE := Lib.hid (leaseE_is hc1 hc2 hd)
      have HC1 := Lib.hid hc1
      have HC2 := Lib.hid hc2
      have G := Lib.hid (outside_is x.til 0 1099511627776)
      rw [hd] at G
      clear hxi hc1 hc2 hd
      go_wp2_with fail
      refine HA.out.mono ?_
      rintro e v1 ⟨r1, rfl, hr1, b1⟩
      have q1 := box_next (box_alloc q _) b1
      have p1 := box_next (box_new3 wr (.string x.job) (.string x.node) (.int .i64 x.til) 48) b1
      have hb1 := below_trans hbA b1 hbA.size
      have hr0 : decide (r1 < 0) = !c1 := by rw [at_neg r1, ← HC1.out, (at_job hr1).1]
      clear q g1 m0 m1 m2 HA b1 hr1 hbA
      have k2 := q1.1 2 _ rfl
      have j1 := p1.1 1 _ rfl
      cases c1 with
      | false =>
        have HZ : Hid (RL = 6) := rows_stop hil HS.out (by rw [Hxi.out]; exact HE.out) (by simp)
        have HR4 : Hid (R = 6) := by have := HR3.out; rw [HZ.out] at this; exact this.trans (orE_stop (by simp))
        have hr0 : decide (r1 < 0) = true := hr0
        go_wp2
        go_ret
        exact ⟨by rw [HR4.out]; rfl, hb1⟩
      | true =>
        have hr0 : decide (r1 < 0) = false := hr0
        have HA := Lib.hid (nodeAt_is nodes an cn (by omega) x.node v1 (nodesAt_next HMN.out hb1))
        go_wp2_with fail
        refine HA.out.mono ?_
        rintro e v2 ⟨r2, rfl, hr2, b2⟩
        have q2 := box_next q1 b2
        have p2 := box_next p1 b2
        have hb2 := below_trans hb1 b2 hb1.size
        have hr3 : decide (r2 < 0) = !c2 := by rw [at_neg r2, ← HC2.out, at_node hr2]
        clear q1 p1 k2 j1 HA b2 hr2 hb1
        have k3 := q2.1 3 _ rfl
        have j0 := p2.1 0 _ rfl
        have j2 := p2.1 2 _ rfl
        cases c2 with
        | false =>
          have HZ : Hid (RL = 6) := rows_stop hil HS.out (by rw [Hxi.out]; exact HE.out) (by simp)
          have HR4 : Hid (R = 6) := by have := HR3.out; rw [HZ.out] at this; exact this.trans (orE_stop (by simp))
          have hr3 : decide (r2 < 0) = true := hr3
          go_wp2
          go_ret
          exact ⟨by rw [HR4.out]; rfl, hb2⟩
        | true =>
          have hr3 : decide (r2 < 0) = false := hr3
          go_wp2_with fail
          refine (G.out _).mono ?_
          rintro e v3 ⟨rfl, rfl⟩
          cases d with
          | false =>
            have HZ : Hid (RL = 1) := rows_stop hil HS.out (by rw [Hxi.out]; exact HE.out) (by simp)
            have HR4 : Hid (R = 1) := by have := HR3.out; rw [HZ.out] at this; exact this.trans (orE_stop (by simp))
            go_wp2
            go_ret
            exact ⟨by rw [HR4.out]; rfl, hb2⟩
          | true =>
            have HE0 : Hid (leaseE jobs nodes leases[i] = 0) := by show _ = _; rw [Hxi.out]; exact HE.out
            cases i with
            | zero =>
              have HZ : Hid (rowsE (leaseE jobs nodes) (·.job) (prevK (·.job) leases 1) (leases.drop 1) = RL) := rows_first hil HS.out HE0.out
              go_wp2_with fail
              go_quiet (fail)
              go_wp2
              go_roundw
              case rel => exact ⟨1, by simp, by omega, q2, below_drewN hb2, HZ⟩
              case measure => simp [intOf]; omega
            | succ m =>
              obtain ⟨a', ha', hal', n0, n1, n2⟩ := leasesAt_next HML.out hb2 m (by omega)
              cases ha'
              obtain ⟨y, hy⟩ : ∃ y, leases[m] = y := ⟨_, rfl⟩
              rw [hy] at n0
              have hwr : IntKind.i64.wrap (m : Int) = (m : Int) := IntWalk.i64_in _ (by omega)
              have hm0 : (0 : Int) ≤ (m : Int) := by omega
              have hm1 : (m : Int) < (leases.length : Int) := by omega
              have HY : Hid (leases[m] = y) := hy
              have hll := less_toList y.job x.job
              clear hy n1 n2 hal hal'
              go_wp2_with fail
              by_cases hlt : lt y.job x.job
              · have HZ : Hid (rowsE (leaseE jobs nodes) (·.job) (prevK (·.job) leases (m + 1 + 1)) (leases.drop (m + 1 + 1)) = RL) := rows_on hil HS.out HE0.out (by rw [HY.out, Hxi.out]; exact hlt)
                rw [decide_eq_true hlt] at hll
                clear hlt
                go_quiet (fail)
                go_wp2
                go_roundw
                case rel => exact ⟨m + 1 + 1, by simp, by omega, q2, below_drewN hb2, HZ⟩
                case measure => simp [intOf]; omega
              · have HZ : Hid (RL = 8) := rows_bad hil HS.out HE0.out (by rw [HY.out, Hxi.out]; exact hlt)
                have HR4 : Hid (R = 8) := by have := HR3.out; rw [HZ.out] at this; exact this.trans (orE_stop (by simp))
                rw [decide_eq_false hlt] at hll
                clear hlt
                go_quiet (fail)
                go_wp2
                go_ret
                exact ⟨by rw [HR4.out]; rfl, below_drewN hb2⟩
    · obtain rfl : i = leases.length := by omega
      have HR4 : Hid (R = roomE jobs leases nodes) := by
        have h1 := HS.out
        rw [rowsE_end] at h1
        have h2 := HR3.out
        rw [← h1] at h2
        exact h2.trans (orE_go _)
      have k2 := q.1 2 _ rfl
      clear HS HR3
      go_wp2
      go_loopw [83] (fun iv wr => ∃ (i : Nat), iv = .int .i64 (i : Int) ∧ i ≤ nodes.length ∧ Box w.heap.size [.int .i64 rev, .slice aj jobs.length cj, .slice an nodes.length cn, .slice al leases.length cl] wr ∧ Below w.heap.size w wr ∧ Hid (∀ j, (hj : j < nodes.length) → j < i → usedD jobs leases nodes[j].name ≤ nodes[j].room)) (fun iv _ => nodes.length - (intOf iv).toNat)
      case atStart => exact ⟨0, rfl, by omega, q, hbr, fun j _ hj => by omega⟩
      case round =>
        clear q hbr k2 h hi
        obtain ⟨i, rfl, hi, q, hbr, HS⟩ := hrel
        by_cases h : (i : Int) < (nodes.length : Int)
        · have hil : i < nodes.length := by omega
          obtain ⟨a, rfl, hal, m0, m1, m2⟩ := nodesAt_next HMN.out hbr i hil
          obtain ⟨x, hxi⟩ : ∃ x, nodes[i] = x := ⟨_, rfl⟩
          rw [hxi] at m0 m1 m2
          have Hxi := Lib.hid hxi
          obtain ⟨W2, hW2⟩ : ∃ W2, wr.alloc (.cells #[.string x.name, .int .i64 x.room, .string x.zone] 45) = W2 := ⟨_, rfl⟩
          have hb2 : Below w.heap.size w W2 := by rw [← hW2]; exact hbr.alloc hbr.size _
          have q2 : Box w.heap.size [.int .i64 rev, .slice aj jobs.length cj, .slice (some a) nodes.length cn, .slice al leases.length cl] W2 := by rw [← hW2]; exact box_alloc q _
          have p2 := box_new3 wr (.string x.name) (.int .i64 x.room) (.string x.zone) 45
          rw [hW2] at p2
          have HU := Lib.hid (fun v (hv : Below w.heap.size w v) => rused_is V8 rev aj (some a) al cj cn cl jobs nodes leases x.name HZJ.out hj hl v (jobsAt_next HMJ.out hv) (leasesAt_next HML.out hv))
          obtain ⟨c, hc⟩ : ∃ c, usedD jobs leases x.name = c := ⟨_, rfl⟩
          rw [hc] at HU
          have HCc := Lib.hid hc
          clear hxi hc
          have k0 := q2.1 0 _ rfl
          have k1 := q2.1 1 _ rfl
          have k2 := q2.1 2 _ rfl
          have k3 := q2.1 3 _ rfl
          have j0 := p2.1 0 _ rfl
          have j1 := p2.1 1 _ rfl
          have j2 := p2.1 2 _ rfl
          have hlt1 := q2.2
          have hlt2 := p2.2
          clear q p2 hal
          go_wp2_with fail
          clear m0 m1 m2
          have o1 := And.intro (And.intro (And.intro k0 (And.intro k1 (And.intro k2 k3))) (And.intro j0 (And.intro j1 j2))) (And.intro (And.intro hlt1 hlt2) hb2)
          clear k0 k1 k2 k3 j0 j1 j2
          go_region_held3 (fun w' => ((w'.cell? ⟨w.heap.size, 0, none⟩ = some (.int .i64 rev) ∧ w'.cell? ⟨w.heap.size, 1, none⟩ = some (.slice aj jobs.length cj) ∧ w'.cell? ⟨w.heap.size, 2, none⟩ = some (.slice (some a) nodes.length cn) ∧ w'.cell? ⟨w.heap.size, 3, none⟩ = some (.slice al leases.length cl)) ∧ (w'.cell? ⟨wr.heap.size, 0, none⟩ = some (.string x.name) ∧ w'.cell? ⟨wr.heap.size, 1, none⟩ = some (.int .i64 x.room) ∧ w'.cell? ⟨wr.heap.size, 2, none⟩ = some (.string x.zone))) ∧ (w.heap.size < w'.heap.size ∧ wr.heap.size < w'.heap.size) ∧ Below w.heap.size w w')
            (first | assumption | exact ⟨o1.1, o1.2.1, o1.2.2.drew⟩)
            (first | (go_at_call 18; (with_reducible refine (HU.out _ (o1.2.2.drew)).mono ?_); rintro e w3 ⟨rfl, b3⟩; have o3 := rowS_chk (w := w) b3 (by first | assumption | exact ⟨o1.1, o1.2.1, o1.2.2.drew⟩)))
          rename_i w3 o3
          have hb3 := o3.2.2
          have q3 : Box w.heap.size [.int .i64 rev, .slice aj jobs.length cj, .slice (some a) nodes.length cn, .slice al leases.length cl] w3 := by
            obtain ⟨⟨⟨c0, c1, c2, c3⟩, _⟩, ⟨l1, _⟩, _⟩ := o3
            refine ⟨fun j v hj => ?_, l1⟩
            match j with
            | 0 => simp at hj; subst hj; exact c0
            | 1 => simp at hj; subst hj; exact c1
            | 2 => simp at hj; subst hj; exact c2
            | 3 => simp at hj; subst hj; exact c3
            | j + 4 => simp at hj
          clear o3 o1
          by_cases hr : x.room < c
          · have HZ : Hid (R = 9) := HR4.out.trans (roomE_no i hil (by rw [Hxi.out, HCc.out]; exact hr))
            go_wp2
            go_ret
            exact ⟨by rw [HZ.out]; rfl, hb3⟩
          · have HS2 : Hid (∀ j, (hj : j < nodes.length) → j < i + 1 → usedD jobs leases nodes[j].name ≤ nodes[j].room) := by
              intro j hj hji
              by_cases e : j = i
              · subst e; rw [Hxi.out, HCc.out]; omega
              · exact HS.out j hj (by omega)
            go_wp2
            go_roundw
            case rel => exact ⟨i + 1, by simp, by omega, q3, hb3, HS2⟩
            case measure => simp [intOf]; omega
        · obtain rfl : i = nodes.length := by omega
          have HZ : Hid (R = 0) := HR4.out.trans (roomE_yes (fun j hj => HS.out j hj hj))
          go_wp2
          go_ret
          exact ⟨by rw [HZ.out]; rfl, hbr⟩
end Go.Proofs.YtkdjpciegcofbaaDoor
