/- state.CheckRows at leases that are checked by themselves. -/
import Derived.Test.YtfbakobmlbjncaaGreatDoorPkSt1
namespace Go.Proofs.YtfbakobmlbjncaaGreatDoor
open Go.RowKit

theorem rowS_leaseC {b : Nat} {p : Addr} {x y : LeaseD} {w w1 w2 : World} (b2 : Below w1.heap.size w1 w2) (h : ((w1.cell? ⟨b, 0, none⟩ = some (.string x.job) ∧ w1.cell? ⟨b, 1, none⟩ = some (.string x.node) ∧ w1.cell? ⟨b, 2, none⟩ = some (.int .i64 x.til)) ∧ (w1.cell? p = some (.string y.job) ∧ w1.cell? ⟨p.block, p.off + 1, none⟩ = some (.string y.node) ∧ w1.cell? ⟨p.block, p.off + 2, none⟩ = some (.int .i64 y.til))) ∧ (b < w1.heap.size ∧ p.block < w1.heap.size) ∧ Below w.heap.size w w1) : ((w2.cell? ⟨b, 0, none⟩ = some (.string x.job) ∧ w2.cell? ⟨b, 1, none⟩ = some (.string x.node) ∧ w2.cell? ⟨b, 2, none⟩ = some (.int .i64 x.til)) ∧ (w2.cell? p = some (.string y.job) ∧ w2.cell? ⟨p.block, p.off + 1, none⟩ = some (.string y.node) ∧ w2.cell? ⟨p.block, p.off + 2, none⟩ = some (.int .i64 y.til))) ∧ (b < w2.heap.size ∧ p.block < w2.heap.size) ∧ Below w.heap.size w w2 := by
  obtain ⟨⟨⟨c0, c1, c2⟩, ⟨p0, p1, p2⟩⟩, ⟨h1, h2⟩, h3⟩ := h
  have hs := b2.size
  exact ⟨⟨⟨by rw [b2.cell (p := ⟨b, 0, none⟩) h1]; exact c0, by rw [b2.cell (p := ⟨b, 1, none⟩) h1]; exact c1, by rw [b2.cell (p := ⟨b, 2, none⟩) h1]; exact c2⟩, ⟨by rw [b2.cell h2]; exact p0, by rw [b2.cell (p := ⟨p.block, p.off + 1, none⟩) h2]; exact p1, by rw [b2.cell (p := ⟨p.block, p.off + 2, none⟩) h2]; exact p2⟩⟩, ⟨by omega, by omega⟩, below_trans h3 b2 h3.size⟩
set_option maxRecDepth 100000 in
set_option maxHeartbeats 4000000 in
theorem checkRows_leaseC (T : World → Prop) (hTn : ∀ w w', T w → Below w.heap.size w w' → T w') (E : LeaseD → Nat) (xs : List LeaseD)
    (HC : ∀ x ∈ xs, ∀ w, T w → Calls Tryz.prog 44 #[.agg #[.string x.job, .string x.node, .int .i64 x.til]] w fun e w' => e = .returned (.int .i64 (E x : Nat)) ∧ Below w.heap.size w w')
    (ad : Option Addr) (cap : Nat) (hlen : xs.length ≤ 40) (w : World) (hT : T w) (hx : LeasesAt w ad xs) :
    Calls Tryz.prog 43 #[.slice ad xs.length cap, .func (.func 44) #[] #[], .func (.func 35) #[] #[]] w fun e w' => e = .returned (.int .i64 (rowsE E (·.job) none xs : Nat)) ∧ Below w.heap.size w w' := by
  obtain ⟨R, hR⟩ : ∃ R, rowsE E (·.job) none xs = R := ⟨_, rfl⟩
  rw [hR]
  have HR0 : Hid (rowsE E (·.job) (prevK (·.job) xs 0) (xs.drop 0) = R) := hR
  have HC := Lib.hid HC
  have HX := Lib.hid hx
  have HTn := Lib.hid hTn
  have HT := Lib.hid hT
  clear hR hx hTn hT
  go_enter Tryz.func43, Tryz.ntmps43
  go_wp2
  go_loopw [12] (fun iv wr => ∃ (i : Nat), iv = .int .i64 (i : Int) ∧ i ≤ xs.length ∧ Below w.heap.size w wr ∧ Hid (rowsE E (·.job) (prevK (·.job) xs i) (xs.drop i) = R)) (fun iv _ => xs.length - (intOf iv).toNat)
  case atStart => exact ⟨0, rfl, by omega, Below.refl _ _, HR0⟩
  case round =>
    obtain ⟨i, rfl, hi, hbr, HR⟩ := hrel
    by_cases h : (i : Int) < (xs.length : Int)
    · have hil : i < xs.length := by omega
      have hx := leasesAt_next HX.out hbr
      obtain ⟨a, rfl, hal, k0, k1, k2⟩ := hx i hil
      have HTr := HTn.out _ _ HT.out hbr
      obtain ⟨x, hxi⟩ : ∃ x, xs[i] = x := ⟨_, rfl⟩
      rw [hxi] at k0 k1 k2
      have hm : x ∈ xs := by rw [← hxi]; exact List.getElem_mem _
      have HCx := Lib.hid (HC.out x hm (wr.alloc (.cells #[.string x.job, .string x.node, .int .i64 x.til] 47)) (HTn.out _ _ HTr (below_one _ _)))
      obtain ⟨e0, he0⟩ : ∃ e0, E x = e0 := ⟨_, rfl⟩
      rw [he0] at HCx
      have Hxi := Lib.hid hxi
      clear hx hxi
      go_wp2_with fail
      refine HCx.out.mono ?_
      rintro e w1 ⟨rfl, b1⟩
      have bx := box_next (box_new3 wr (.string x.job) (.string x.node) (.int .i64 x.til) 47) b1
      have hb1 : Below w.heap.size w w1 := below_trans (hbr.alloc hbr.size _) b1 (by have := hbr.size; simp; omega)
      by_cases h0 : e0 ≠ 0
      · have HR1 : Hid (R = e0) := rows_stop hil HR.out (by rw [Hxi.out]; exact he0) h0
        have hc : ((e0 : Int) != 0) = true := by simp; omega
        go_wp2
        go_ret
        exact ⟨by rw [HR1.out]; rfl, hb1⟩
      · have h0 : e0 = 0 := by simpa using h0
        subst h0
        have c0 := bx.1 0 _ rfl
        have c1 := bx.1 1 _ rfl
        have c2 := bx.1 2 _ rfl
        have hb0 : wr.heap.size < w1.heap.size := bx.2
        have HE0 : Hid (E x = 0) := he0
        clear he0 HCx k0 k1 k2 hal
        cases i with
        | zero =>
          have HR1 : Hid (rowsE E (·.job) (prevK (·.job) xs 1) (xs.drop 1) = R) := rows_first hil HR.out (by rw [Hxi.out]; exact HE0.out)
          go_wp2_with fail
          go_region
          go_wp2
          go_roundw
          case rel => exact ⟨1, by simp, by omega, hb1.drew, HR1⟩
          case measure => simp [intOf]; omega
        | succ m =>
          obtain ⟨a', ha', hal, p0, p1, p2⟩ := leasesAt_next HX.out hb1 m (by omega)
          cases ha'
          obtain ⟨y, hy⟩ : ∃ y, xs[m] = y := ⟨_, rfl⟩
          rw [hy] at p0 p1 p2
          have hwr : IntKind.i64.wrap (m : Int) = (m : Int) := IntWalk.i64_in _ (by omega)
          have hm0 : (0 : Int) ≤ (m : Int) := by omega
          have hm1 : (m : Int) < (xs.length : Int) := by omega
          have hpb : (a.add (m * 3)).block < w1.heap.size := by rw [add_block]; exact hal
          have HY : Hid (xs[m] = y) := hy
          clear hy bx b1
          go_wp2_with fail
          by_cases hlt : lt y.job x.job
          · obtain ⟨hl1, hl2⟩ := above_lists hlt
            have HR1 : Hid (rowsE E (·.job) (prevK (·.job) xs (m + 1 + 1)) (xs.drop (m + 1 + 1)) = R) := rows_on hil HR.out (by rw [Hxi.out]; exact HE0.out) (by rw [HY.out, Hxi.out]; exact hlt)
            clear hlt
            go_region_held3 (fun w' => ((w'.cell? ⟨wr.heap.size, 0, none⟩ = some (.string x.job) ∧ w'.cell? ⟨wr.heap.size, 1, none⟩ = some (.string x.node) ∧ w'.cell? ⟨wr.heap.size, 2, none⟩ = some (.int .i64 x.til)) ∧ (w'.cell? (a.add (m * 3)) = some (.string y.job) ∧ w'.cell? ⟨(a.add (m * 3)).block, (a.add (m * 3)).off + 1, none⟩ = some (.string y.node) ∧ w'.cell? ⟨(a.add (m * 3)).block, (a.add (m * 3)).off + 2, none⟩ = some (.int .i64 y.til))) ∧ (wr.heap.size < w'.heap.size ∧ (a.add (m * 3)).block < w'.heap.size) ∧ Below w.heap.size w w')
              (first | assumption | exact ⟨⟨⟨c0, c1, c2⟩, ⟨p0, p1, p2⟩⟩, ⟨hb0, hpb⟩, hb1⟩ | exact ⟨⟨⟨c0, c1, c2⟩, ⟨p0, p1, p2⟩⟩, ⟨hb0, hpb⟩, hb1.drew⟩)
              (first | (go_at_call 35; (with_reducible refine (leaseJob_is _ _).mono ?_); rintro e w2 ⟨rfl, b2⟩; have o2 := rowS_leaseC (b := wr.heap.size) (p := a.add (m * 3)) (x := x) (y := y) (w := w) b2 (by assumption)))
            all_goals
              rename_i o2
              have hb2 := o2.2.2
              clear o2
              go_wp2
              go_roundw
              case rel => exact ⟨m + 1 + 1, by simp, by omega, hb2, HR1⟩
              case measure => simp [intOf]; omega
          · have HR1 : Hid (R = 8) := rows_bad hil HR.out (by rw [Hxi.out]; exact HE0.out) (by rw [HY.out, Hxi.out]; exact hlt)
            rcases below_lists hlt with ⟨hl1, hl2⟩ | ⟨hl1, hl2⟩
            all_goals
              clear hlt
              go_region_held3 (fun w' => ((w'.cell? ⟨wr.heap.size, 0, none⟩ = some (.string x.job) ∧ w'.cell? ⟨wr.heap.size, 1, none⟩ = some (.string x.node) ∧ w'.cell? ⟨wr.heap.size, 2, none⟩ = some (.int .i64 x.til)) ∧ (w'.cell? (a.add (m * 3)) = some (.string y.job) ∧ w'.cell? ⟨(a.add (m * 3)).block, (a.add (m * 3)).off + 1, none⟩ = some (.string y.node) ∧ w'.cell? ⟨(a.add (m * 3)).block, (a.add (m * 3)).off + 2, none⟩ = some (.int .i64 y.til))) ∧ (wr.heap.size < w'.heap.size ∧ (a.add (m * 3)).block < w'.heap.size) ∧ Below w.heap.size w w')
                (first | assumption | exact ⟨⟨⟨c0, c1, c2⟩, ⟨p0, p1, p2⟩⟩, ⟨hb0, hpb⟩, hb1⟩ | exact ⟨⟨⟨c0, c1, c2⟩, ⟨p0, p1, p2⟩⟩, ⟨hb0, hpb⟩, hb1.drew⟩)
                (first | (go_at_call 35; (with_reducible refine (leaseJob_is _ _).mono ?_); rintro e w2 ⟨rfl, b2⟩; have o2 := rowS_leaseC (b := wr.heap.size) (p := a.add (m * 3)) (x := x) (y := y) (w := w) b2 (by assumption)))
              all_goals
                rename_i o2
                have hb2 := o2.2.2
                clear o2
                go_wp2
                go_ret
                exact ⟨by rw [HR1.out]; rfl, hb2⟩
    · obtain rfl : i = xs.length := by omega
      have HR1 : Hid (0 = R) := by have := HR.out; rw [rowsE_end] at this; exact this
      go_wp2
      go_ret
      exact ⟨by rw [← HR1.out]; rfl, hbr⟩
end Go.Proofs.YtfbakobmlbjncaaGreatDoor
