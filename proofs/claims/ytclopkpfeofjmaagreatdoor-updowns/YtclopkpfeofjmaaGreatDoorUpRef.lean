/- The reference's Up, of a state that is small. -/
import Derived.Test.YtclopkpfeofjmaaGreatDoorUpState
import Derived.Test.YtclopkpfeofjmaaGreatDoorStCopy
import Derived.Test.YtclopkpfeofjmaaGreatDoorPkStR
import Derived.Deep.RegionHeld3
namespace Go.Proofs.YtclopkpfeofjmaaGreatDoor
open Go.RowKit

theorem at_has {ls : List LeaseD} {n : ByteArray} {r : Int} (h : At (·.job) ls n r) : (0 ≤ r ∧ hasLease ls n = true) ∨ (r < 0 ∧ hasLease ls n = false) := by
  rcases h with ⟨rfl, h⟩ | ⟨i, hi, rfl, h, _⟩
  · refine .inr ⟨by omega, ?_⟩
    cases hh : hasLease ls n with
    | false => rfl
    | true =>
      obtain ⟨l, hl, e⟩ := (hasLease_iff _ _).1 hh
      obtain ⟨j, hj, rfl⟩ := List.getElem_of_mem hl
      exact absurd e (h j hj)
  · exact .inl ⟨by omega, (hasLease_iff _ _).2 ⟨_, List.getElem_mem hi, h⟩⟩
/-- A block, a row of another type, beside a row that grows. -/
theorem objAt_row {b B e sz n : Nat} {w w' : World} {y : Value} {vs : Array Value} {t : TypeId} {ys : List Value} (h1 : ObjAt b vs t w) (h2 : w.ownsRow B e sz y n ys) (ht : t ≠ e) (hg : w.grownBy w' y.ownBlock) : ObjAt b vs t w' := by
  have hb := objAt_lt h1
  unfold ObjAt at h1 ⊢
  rw [hg.block b hb (fun e1 => by
    rcases h2.2 with ⟨rfl, _⟩ | ⟨g', cap', cur', rfl, _, hgc', _⟩
    · simp [Value.ownBlock] at e1
    · simp only [Value.ownBlock, Option.some.injEq] at e1
      subst e1
      rw [h1] at hgc'
      simp only [Option.some.injEq, Obj.cells.injEq] at hgc'
      exact ht hgc'.2.1)]
  exact h1
theorem own_row {B B' e e' sz sz' n m : Nat} {w w' : World} {x y : Value} {xs ys : List Value} (h : w.ownsRow B e sz x n xs) (k : w.ownsRow B' e' sz' y m ys) (he : e ≠ e') (hg : w.grownBy w' y.ownBlock) : w'.ownsRow B e sz x n xs := by
  refine ⟨h.1, ?_⟩
  rcases h.2 with h0 | ⟨g, cap, cur, hv, hbg, hgc, r⟩
  · exact .inl h0
  · refine .inr ⟨g, cap, cur, hv, hbg, ?_, r⟩
    rw [hg.block g (Array.getElem?_eq_some_iff.1 hgc).1 (fun e1 => by
      rcases k.2 with ⟨rfl, _⟩ | ⟨g', cap', cur', rfl, _, hgc', _⟩
      · simp [Value.ownBlock] at e1
      · simp only [Value.ownBlock, Option.some.injEq] at e1
        subst e1
        rw [hgc] at hgc'
        simp only [Option.some.injEq, Obj.cells.injEq] at hgc'
        exact he hgc'.2.1)]
    exact hgc
theorem slice_of {w : World} {B e sz n m : Nat} {v : Value} {xs : List Value} (h : w.ownsRow B e sz v (n + m) xs) : ∃ ad cap, v = .slice ad (n + m) cap := by
  rcases h.2 with ⟨rfl, h0⟩ | ⟨g, cap, cur, rfl, _⟩
  · exact ⟨none, 0, by rw [h0]⟩
  · exact ⟨_, _, rfl⟩
/-- The state and the result's block, as Up's first statement leaves them. -/
def RefS (H : Nat) (c0 c1 c2 c3 : Value) (W w : World) : Prop := ObjAt H #[c0, c1, c2, c3] 30 w ∧ ObjAt (H + 1) #[.int .i64 0, .slice none 0 0, .slice none 0 0, .slice none 0 0] 30 w ∧ Below H W w
theorem refS_all {H : Nat} {c0 c1 c2 c3 : Value} {W w : World} (h : RefS H c0 c1 c2 c3 W w) : (w.cell? ⟨H, 0, none⟩ = some c0 ∧ w.cell? ⟨H, 3, none⟩ = some c3) ∧ RefS H c0 c1 c2 c3 W w := ⟨⟨objAt_cell h.1 0 rfl, objAt_cell h.1 3 rfl⟩, h⟩
theorem refS_next {H : Nat} {c0 c1 c2 c3 : Value} {W w w' : World} (h : RefS H c0 c1 c2 c3 W w) (hb : Below w.heap.size w w') : RefS H c0 c1 c2 c3 W w' := ⟨objAt_next h.1 hb, objAt_next h.2.1 hb, below_trans h.2.2 hb (Nat.le_of_lt (objAt_lt h.1))⟩
theorem refS_put {H b : Nat} {c0 c1 c2 c3 : Value} {W w : World} (h : RefS H c0 c1 c2 c3 W w) (hb : H + 1 < b) (x0 x1 x2 x3 : Value) : RefS H c0 c1 c2 c3 W ((((w.setCell ⟨b, 0, none⟩ x0).setCell ⟨b, 1, none⟩ x1).setCell ⟨b, 2, none⟩ x2).setCell ⟨b, 3, none⟩ x3) :=
  ⟨other_put4 h.1 (by omega) _ _ _ _, other_put4 h.2.1 (by omega) _ _ _ _, below_put4 h.2.2 (by omega) _ _ _ _⟩
theorem refS_copy {H n : Nat} {c0 c1 c2 c3 v : Value} {xs : List Value} {W w w' : World} (hb : Below w.heap.size w w') (ho : w'.ownsRow w.heap.size 48 3 v n xs) (h : (w.cell? ⟨H, 0, none⟩ = some c0 ∧ w.cell? ⟨H, 3, none⟩ = some c3) ∧ RefS H c0 c1 c2 c3 W w) :
    ((w'.cell? ⟨H, 0, none⟩ = some c0 ∧ w'.cell? ⟨H, 3, none⟩ = some c3) ∧ RefS H c0 c1 c2 c3 W w') ∧ w'.ownsRow H 48 3 v n xs := ⟨refS_all (refS_next h.2 hb), ownsRow_low ho (Nat.le_of_lt (objAt_lt h.2.1))⟩
theorem refS_below {H : Nat} {c0 c1 c2 c3 : Value} {W w : World} (h : (w.cell? ⟨H, 0, none⟩ = some c0 ∧ w.cell? ⟨H, 3, none⟩ = some c3) ∧ RefS H c0 c1 c2 c3 W w) : Below H W w := h.2.2.2
set_option maxRecDepth 100000 in
set_option maxHeartbeats 4000000 in
theorem rup_11 (s : StD) (aj an al : Option Addr) (cj cn cl : Nat) (hl : s.jobs.length ≤ 40 ∧ s.nodes.length ≤ 40 ∧ s.leases.length ≤ 40) (w : World) (hmj : JobsAt w aj s.jobs) (hmn : NodesAt w an s.nodes) (hml : LeasesAt w al s.leases) :
    Calls Tryz.prog 17 #[.agg #[.int .i64 s.rev, .slice aj s.jobs.length cj, .slice an s.nodes.length cn, .slice al s.leases.length cl], .int .i64 1, .int .i64 1] w fun e w' => ∃ aj' cj' an' cn' al' cl', e = .returned (.agg #[.int .i64 s.rev, .slice aj' s.jobs.length cj', .slice an' s.nodes.length cn', .slice al' s.leases.length cl']) ∧ w'.ownsRow w.heap.size 50 5 (.slice aj' s.jobs.length cj') s.jobs.length (cJobs (s.jobs.map (upJ s.leases 1 1))) ∧ w'.ownsRow w.heap.size 52 3 (.slice an' s.nodes.length cn') s.nodes.length (cNodes (s.nodes.map (upN 1 1))) ∧ w'.ownsRow w.heap.size 48 3 (.slice al' s.leases.length cl') s.leases.length (cLeases s.leases) ∧ Below w.heap.size w w' := by
  obtain ⟨W0, hW0⟩ : ∃ W0, (w.alloc (.cells #[.int .i64 s.rev, .slice aj s.jobs.length cj, .slice an s.nodes.length cn, .slice al s.leases.length cl] 30)).alloc (.cells #[.int .i64 0, .slice none 0 0, .slice none 0 0, .slice none 0 0] 30) = W0 := ⟨_, rfl⟩
  obtain ⟨p0, r0, B0, sz0⟩ := two_new w _ _ _ _ _ W0 hW0
  obtain ⟨i0, qi, qz0, qz1, qz2⟩ := info_parts' Tryz.info_job
  have Hi := Lib.hid qi
  have Hz0 := Lib.hid qz0
  have Hz1 := Lib.hid qz1
  have Hz2 := Lib.hid qz2
  obtain ⟨i1, qi', qz0', qz1', qz2'⟩ := info_parts' Tryz.info_node
  have Ni := Lib.hid qi'
  have Nz0 := Lib.hid qz0'
  have Nz1 := Lib.hid qz1'
  have Nz2 := Lib.hid qz2'
  clear qi qz0 qz1 qz2 qi' qz0' qz1' qz2'
  have HM := Lib.hid (And.intro hmj (And.intro hmn hml))
  obtain ⟨hl1, hl2, hl3⟩ := hl
  have bN := below_one W0 (.cells #[.int .i64 0, .slice none 0 0, .slice none 0 0, .slice none 0 0] 30)
  have HCA := Lib.hid (copy_lease s.leases al cl hl3 W0.drew (leasesAt_next hml B0.drew))
  have HCB := Lib.hid (copy_lease s.leases al cl hl3 (W0.alloc (.cells #[.int .i64 0, .slice none 0 0, .slice none 0 0, .slice none 0 0] 30)).drew (leasesAt_next hml (below_trans B0 bN B0.size).drew))
  have OB := Lib.hid (objAt_drew (objAt_new W0 #[.int .i64 0, .slice none 0 0, .slice none 0 0, .slice none 0 0] 30))
  have t0 := refS_all (w := (W0.alloc (.cells #[.int .i64 0, .slice none 0 0, .slice none 0 0, .slice none 0 0] 30)).drew) (⟨objAt_drew (objAt_next p0 bN), objAt_drew (objAt_next r0 bN), (below_trans B0 bN B0.size).drew⟩ : RefS w.heap.size _ _ _ _ w _)
  have s0 := refS_all (w := W0.drew) (⟨objAt_drew p0, objAt_drew r0, B0.drew⟩ : RefS w.heap.size _ _ _ _ w W0.drew)
  have SZ := Lib.hid sz0
  have hb2 : w.heap.size + 1 < W0.heap.size := by omega
  clear hmj hmn hml p0 r0 B0 sz0 bN
  go_enter Tryz.func17, Tryz.ntmps17
  go_wp2_with fail
  go_cut [7] from 12 (fun lv wc => ∃ L el gl, lv = .pointer (some ⟨L, 0, none⟩) ∧ w.heap.size + 2 ≤ L ∧ ObjAt L #[.int .i64 s.rev, .slice none 0 0, .slice none 0 0, .slice el s.leases.length gl] 30 wc ∧ RefS w.heap.size (.int .i64 s.rev) (.slice aj s.jobs.length cj) (.slice an s.nodes.length cn) (.slice al s.leases.length cl) w wc ∧ wc.ownsRow w.heap.size 48 3 (.slice el s.leases.length gl) s.leases.length (cLeases s.leases))
  case first =>
    go_region_held3 (fun x => (x.cell? ⟨w.heap.size, 0, none⟩ = some (.int .i64 s.rev) ∧ x.cell? ⟨w.heap.size, 3, none⟩ = some (.slice al s.leases.length cl)) ∧ RefS w.heap.size (.int .i64 s.rev) (.slice aj s.jobs.length cj) (.slice an s.nodes.length cn) (.slice al s.leases.length cl) w x)
      (first | with_reducible assumption | with_reducible exact s0 | with_reducible exact s1.1 | with_reducible exact t0 | with_reducible exact refS_all (refS_put s1.1.2 hb2 _ _ _ _) | exact refS_all (refS_next s1.1.2 (below_one _ _)) | exact refS_all (refS_next s0.2 (below_one _ _)))
      (first
        | (go_at_call 24; (with_reducible refine HCA.out.mono ?_); rintro e x1 ⟨el, gl, rfl, ol, c1⟩; have s1 := refS_copy c1 ol s0)
        | (go_at_call 24; (with_reducible refine HCB.out.mono ?_); rintro e x1 ⟨el, gl, rfl, ol, c1⟩; have s1 := refS_copy c1 ol t0; have oB := objAt_next OB.out c1; have m0 := objAt_cell oB 0 rfl; have m1 := objAt_cell oB 1 rfl; have m2 := objAt_cell oB 2 rfl; have m3 := objAt_cell oB 3 rfl; have f0 := objAt_free oB 0; have f1 := objAt_free oB 1; have f2 := objAt_free oB 2; have f3 := objAt_free oB 3))
    · rename_i hS
      have hz := objAt_lt s1.1.2.2.1
      go_wp2_with fail
      go_meet
      case rel => exact ⟨x1.heap.size, el, gl, rfl, (by omega), objAt_new x1 _ _, hS.2, own_next s1.2 (below_one _ _)⟩
    · rename_i hS
      have hz := SZ.out
      go_wp2_with fail
      go_meet
      case rel => exact ⟨W0.heap.size, el, gl, rfl, (by omega), obj_put4 (objAt_next OB.out c1) _ _ _ _, hS.2, own_put4 s1.2 (objAt_next OB.out c1) (by decide) _ _ _ _⟩
  case rest =>
    obtain ⟨L, el, gl, rfl, hL, oL, hS, ol⟩ := hcut
    obtain ⟨pH, rH, BH⟩ := hS
    have n1 := objAt_cell pH 1 rfl
    have P0 := Lib.hid (And.intro oL (And.intro pH (And.intro rH (And.intro ol BH))))
    clear oL pH rH ol BH
    go_wp2
    go_loopw [28] (fun iv wr => ∃ (i : Nat) (pv : Value), iv = .int .i64 (i : Int) ∧ i ≤ s.jobs.length ∧ ObjAt L #[.int .i64 s.rev, pv, .slice none 0 0, .slice el s.leases.length gl] 30 wr ∧ ObjAt w.heap.size #[.int .i64 s.rev, .slice aj s.jobs.length cj, .slice an s.nodes.length cn, .slice al s.leases.length cl] 30 wr ∧ ObjAt (w.heap.size + 1) #[.int .i64 0, .slice none 0 0, .slice none 0 0, .slice none 0 0] 30 wr ∧ wr.ownsRow w.heap.size 50 5 pv i (cJobs ((s.jobs.take i).map (upJ s.leases 1 1))) ∧ wr.ownsRow w.heap.size 48 3 (.slice el s.leases.length gl) s.leases.length (cLeases s.leases) ∧ Below w.heap.size w wr) (fun iv _ => s.jobs.length - (intOf iv).toNat)
    case atStart =>
      obtain ⟨oL, pH, rH, ol, BH⟩ := P0.out
      exact ⟨0, _, rfl, Nat.zero_le _, oL, pH, rH, World.ownsRow_nil _ _ _ _, ol, BH⟩
    case round =>
      clear P0 n1
      obtain ⟨i, pv, rfl, hi, oL, pH, rH, hown, ol, hbr⟩ := hrel
      have lL := objAt_lt oL
      by_cases h : (i : Int) < (s.jobs.length : Int)
      · have hil : i < s.jobs.length := by omega
        obtain ⟨a, rfl, hal, k0, k1, k2, k3, k4⟩ := jobsAt_next HM.out.1 hbr i hil
        obtain ⟨x, hxi⟩ : ∃ x, s.jobs[i] = x := ⟨_, rfl⟩
        rw [hxi] at k0 k1 k2 k3 k4
        have HMp := Lib.hid (map_take (upJ s.leases 1 1) s.jobs i hil)
        rw [hxi] at HMp
        clear hxi
        obtain ⟨V, hV⟩ : ∃ V, wr.alloc (.cells #[.string x.name, .int .i64 x.prio, .int .i64 x.need, .int .i64 x.tries, .string x.tag] 50) = V := ⟨_, rfl⟩
        have CV := below_one wr (.cells #[.string x.name, .int .i64 x.prio, .int .i64 x.need, .int .i64 x.tries, .string x.tag] 50)
        have oK := objAt_new wr #[.string x.name, .int .i64 x.prio, .int .i64 x.need, .int .i64 x.tries, .string x.tag] 50
        rw [hV] at CV oK
        have hown2 := own_next hown CV
        have oL2 := objAt_next oL CV
        have pH2 := objAt_next pH CV
        have rH2 := objAt_next rH CV
        have ol2 := own_next ol CV
        have B2 := below_trans hbr CV hbr.size
        have s2 := B2.size
        have u1 := objAt_cell oL2 1 rfl
        have y0 := objAt_cell oK 0 rfl
        have y1 := objAt_cell oK 1 rfl
        have y2 := objAt_cell oK 2 rfl
        have y3 := objAt_cell oK 3 rfl
        have y4 := objAt_cell oK 4 rfl
        have Q2 := Lib.hid (And.intro oL2 (And.intro pH2 (And.intro rH2 (And.intro ol2 B2))))
        clear oL pH rH ol hown hbr oL2 pH2 rH2 ol2 B2 CV oK
        go_wp2_with (at_builtin; refine wpList_append_own _ rfl _ _ 26 rfl w.heap.size 50 i0 _ 5 56 Tryz.underlying26 Hi.out Hz0.out Hz1.out Hz2.out rfl (by decide) _ _ _ rfl (hown2.alloc _) ⟨V.heap.size, 0, none⟩ 1 1 (cJob x) rfl rfl ?c1 ?c2 ?c3 ?c4 ?c5 ?_)
        case c1 => exact job_new V x _
        case c2 => exact job_ones x
        case c3 => unfold maxLen; omega
        case c4 => omega
        case c5 => simp; omega
        · intro v3 w3 own3 hg3 _
          obtain ⟨oL2, pH2, rH2, ol2, B2⟩ := Q2.out
          have bN := below_one V (.cells #[.string x.name, .int .i64 x.prio, .int .i64 x.need, .int .i64 x.tries, .string x.tag] 50)
          have hb3 := (below_trans B2 bN B2.size).grown hg3 (by simp; omega) (fun k hk' => (hown2.lt k hk').1)
          have oL3 := objAt_row (objAt_next oL2 bN) (own_next hown2 bN) (by decide) hg3
          have pH3 := objAt_row (objAt_next pH2 bN) (own_next hown2 bN) (by decide) hg3
          have rH3 := objAt_row (objAt_next rH2 bN) (own_next hown2 bN) (by decide) hg3
          have ol3 := own_row (own_next ol2 bN) (own_next hown2 bN) (by decide) hg3
          obtain ⟨ad3, cap3, rfl⟩ := slice_of own3
          rw [← cJobs_one, ← cJobs_append] at own3
          have own4 : w3.ownsRow w.heap.size 50 5 (.slice ad3 (i + 1) cap3) (i + 1) (cJobs ((s.jobs.take (i + 1)).map (upJ s.leases 1 1))) := by rw [HMp.out, show upJ s.leases 1 1 x = x from rfl]; simpa using own3
          have e1 := objAt_free oL3 1
          have e2 := objAt_cell oL3 1 rfl
          have oL4 : ObjAt L #[.int .i64 s.rev, .slice ad3 (i + 1) cap3, .slice none 0 0, .slice el s.leases.length gl] 30 _ := objAt_set oL3 1 (.slice ad3 (i + 1) cap3)
          have pH4 := objAt_other pH3 (c := L) (by omega) 1 (.slice ad3 (i + 1) cap3)
          have rH4 := objAt_other rH3 (c := L) (by omega) 1 (.slice ad3 (i + 1) cap3)
          have own5 := own_box own4 oL3 (by decide) 1 (.slice ad3 (i + 1) cap3)
          have ol4 := own_box ol3 oL3 (by decide) 1 (.slice ad3 (i + 1) cap3)
          have hb4 := hb3.setCell (p := ⟨L, 1, none⟩) (show w.heap.size ≤ L by omega) (.slice ad3 (i + 1) cap3)
          have Q4 := Lib.hid (And.intro oL4 (And.intro pH4 (And.intro rH4 (And.intro own5 (And.intro ol4 hb4)))))
          clear oL2 pH2 rH2 ol2 B2 bN hb3 oL3 pH3 rH3 ol3 own3 own4 hg3 hown2 oL4 pH4 rH4 own5 ol4 hb4 s2 u1 Q2
          go_wp2
          go_roundw
          case rel =>
            obtain ⟨oL4, pH4, rH4, own5, ol4, hb4⟩ := Q4.out
            exact ⟨i + 1, .slice ad3 (i + 1) cap3, by simp, by omega, oL4, pH4, rH4, own5, ol4, hb4⟩
          case measure => simp [intOf]; omega
      · obtain rfl : i = s.jobs.length := by omega
        rw [List.take_length] at hown
        have hlm : (s.jobs.map (upJ s.leases 1 1)).length = s.jobs.length := List.length_map _
        have hown' := hown
        rw [← hlm] at hown'
        obtain ⟨ej, gj, rfl, _⟩ := own_jobs hown'
        rw [hlm] at hown oL
        clear hown' hlm
        have n2 := objAt_cell pH 2 rfl
        have P1 := Lib.hid (And.intro oL (And.intro pH (And.intro rH (And.intro hown (And.intro ol hbr)))))
        clear oL pH rH hown ol hbr lL
        go_wp2
        go_loopw [56] (fun iv wr => ∃ (i : Nat) (pv : Value), iv = .int .i64 (i : Int) ∧ i ≤ s.nodes.length ∧ ObjAt L #[.int .i64 s.rev, .slice ej s.jobs.length gj, pv, .slice el s.leases.length gl] 30 wr ∧ ObjAt w.heap.size #[.int .i64 s.rev, .slice aj s.jobs.length cj, .slice an s.nodes.length cn, .slice al s.leases.length cl] 30 wr ∧ ObjAt (w.heap.size + 1) #[.int .i64 0, .slice none 0 0, .slice none 0 0, .slice none 0 0] 30 wr ∧ wr.ownsRow w.heap.size 52 3 pv i (cNodes ((s.nodes.take i).map (upN 1 1))) ∧ wr.ownsRow w.heap.size 50 5 (.slice ej s.jobs.length gj) s.jobs.length (cJobs (s.jobs.map (upJ s.leases 1 1))) ∧ wr.ownsRow w.heap.size 48 3 (.slice el s.leases.length gl) s.leases.length (cLeases s.leases) ∧ Below w.heap.size w wr) (fun iv _ => s.nodes.length - (intOf iv).toNat)
        case atStart =>
          obtain ⟨oL, pH, rH, oj, ol, BH⟩ := P1.out
          exact ⟨0, _, rfl, Nat.zero_le _, oL, pH, rH, World.ownsRow_nil _ _ _ _, oj, ol, BH⟩
        case round =>
          clear P1 n2
          obtain ⟨i, pv, rfl, hi, oL, pH, rH, hown, oj, ol, hbr⟩ := hrel
          have lL := objAt_lt oL
          by_cases h : (i : Int) < (s.nodes.length : Int)
          · have hil : i < s.nodes.length := by omega
            obtain ⟨a, rfl, hal, k0, k1, k2⟩ := nodesAt_next HM.out.2.1 hbr i hil
            obtain ⟨x, hxi⟩ : ∃ x, s.nodes[i] = x := ⟨_, rfl⟩
            rw [hxi] at k0 k1 k2
            have HMp := Lib.hid (map_take (upN 1 1) s.nodes i hil)
            rw [hxi] at HMp
            clear hxi
            obtain ⟨V, hV⟩ : ∃ V, wr.alloc (.cells #[.string x.name, .int .i64 x.room, .string x.zone] 52) = V := ⟨_, rfl⟩
            have CV := below_one wr (.cells #[.string x.name, .int .i64 x.room, .string x.zone] 52)
            have oK := objAt_new wr #[.string x.name, .int .i64 x.room, .string x.zone] 52
            rw [hV] at CV oK
            have hown2 := own_next hown CV
            have oL2 := objAt_next oL CV
            have pH2 := objAt_next pH CV
            have rH2 := objAt_next rH CV
            have ol2 := own_next ol CV
            have oj2 := own_next oj CV
            have B2 := below_trans hbr CV hbr.size
            have s2 := B2.size
            have u1 := objAt_cell oL2 2 rfl
            have y0 := objAt_cell oK 0 rfl
            have y1 := objAt_cell oK 1 rfl
            have y2 := objAt_cell oK 2 rfl
            have Q2 := Lib.hid (And.intro oL2 (And.intro pH2 (And.intro rH2 (And.intro ol2 B2))))
            clear oL pH rH ol hown hbr oL2 pH2 rH2 ol2 B2 CV oK oj
            go_wp2_with (at_builtin; refine wpList_append_own _ rfl _ _ 27 rfl w.heap.size 52 i1 _ 3 40 Tryz.underlying27 Ni.out Nz0.out Nz1.out Nz2.out rfl (by decide) _ _ _ rfl (hown2.alloc _) ⟨V.heap.size, 0, none⟩ 1 1 (cNode x) rfl rfl ?c1 ?c2 ?c3 ?c4 ?c5 ?_)
            case c1 => exact node_new V x _
            case c2 => exact node_ones x
            case c3 => unfold maxLen; omega
            case c4 => omega
            case c5 => simp; omega
            · intro v3 w3 own3 hg3 _
              obtain ⟨oL2, pH2, rH2, ol2, B2⟩ := Q2.out
              have bN := below_one V (.cells #[.string x.name, .int .i64 x.room, .string x.zone] 52)
              have hb3 := (below_trans B2 bN B2.size).grown hg3 (by simp; omega) (fun k hk' => (hown2.lt k hk').1)
              have oL3 := objAt_row (objAt_next oL2 bN) (own_next hown2 bN) (by decide) hg3
              have pH3 := objAt_row (objAt_next pH2 bN) (own_next hown2 bN) (by decide) hg3
              have rH3 := objAt_row (objAt_next rH2 bN) (own_next hown2 bN) (by decide) hg3
              have ol3 := own_row (own_next ol2 bN) (own_next hown2 bN) (by decide) hg3
              have oj3 := own_row (own_next oj2 bN) (own_next hown2 bN) (by decide) hg3
              obtain ⟨ad3, cap3, rfl⟩ := slice_of own3
              rw [← cNodes_one, ← cNodes_append] at own3
              have own4 : w3.ownsRow w.heap.size 52 3 (.slice ad3 (i + 1) cap3) (i + 1) (cNodes ((s.nodes.take (i + 1)).map (upN 1 1))) := by rw [HMp.out, show upN 1 1 x = x from rfl]; simpa using own3
              have e1 := objAt_free oL3 2
              have e2 := objAt_cell oL3 2 rfl
              have oL4 : ObjAt L #[.int .i64 s.rev, .slice ej s.jobs.length gj, .slice ad3 (i + 1) cap3, .slice el s.leases.length gl] 30 _ := objAt_set oL3 2 (.slice ad3 (i + 1) cap3)
              have pH4 := objAt_other pH3 (c := L) (by omega) 2 (.slice ad3 (i + 1) cap3)
              have rH4 := objAt_other rH3 (c := L) (by omega) 2 (.slice ad3 (i + 1) cap3)
              have own5 := own_box own4 oL3 (by decide) 2 (.slice ad3 (i + 1) cap3)
              have ol4 := own_box ol3 oL3 (by decide) 2 (.slice ad3 (i + 1) cap3)
              have hb4 := hb3.setCell (p := ⟨L, 2, none⟩) (show w.heap.size ≤ L by omega) (.slice ad3 (i + 1) cap3)
              have oj4 := own_box oj3 oL3 (by decide) 2 (.slice ad3 (i + 1) cap3)
              have Q4 := Lib.hid (And.intro oL4 (And.intro pH4 (And.intro rH4 (And.intro own5 (And.intro ol4 hb4)))))
              have J4 := Lib.hid oj4
              clear oL2 pH2 rH2 ol2 B2 bN hb3 oL3 pH3 rH3 ol3 own3 own4 hg3 hown2 oL4 pH4 rH4 own5 ol4 hb4 s2 u1 Q2 oj2 oj3 oj4
              go_wp2
              go_roundw
              case rel =>
                obtain ⟨oL4, pH4, rH4, own5, ol4, hb4⟩ := Q4.out
                exact ⟨i + 1, .slice ad3 (i + 1) cap3, by simp, by omega, oL4, pH4, rH4, own5, J4.out, ol4, hb4⟩
              case measure => simp [intOf]; omega
          · obtain rfl : i = s.nodes.length := by omega
            rw [List.take_length] at hown
            have hlm : (s.nodes.map (upN 1 1)).length = s.nodes.length := List.length_map _
            have hown' := hown
            rw [← hlm] at hown'
            obtain ⟨en, gn, rfl, _⟩ := own_nodes hown'
            rw [hlm] at hown oL
            clear hown' hlm
            have d0 := objAt_cell oL 0 rfl
            have d1 := objAt_cell oL 1 rfl
            have d2 := objAt_cell oL 2 rfl
            have d3 := objAt_cell oL 3 rfl
            have f0 := objAt_free rH 0
            have f1 := objAt_free rH 1
            have f2 := objAt_free rH 2
            have f3 := objAt_free rH 3
            have m0 := objAt_cell rH 0 rfl
            have m1 := objAt_cell rH 1 rfl
            have m2 := objAt_cell rH 2 rfl
            have m3 := objAt_cell rH 3 rfl
            have oF := obj_put4 rH (.int .i64 s.rev) (.slice ej s.jobs.length gj) (.slice en s.nodes.length gn) (.slice el s.leases.length gl)
            have BF := Lib.hid (below_put4 hbr (b := w.heap.size + 1) (by omega) (.int .i64 s.rev) (.slice ej s.jobs.length gj) (.slice en s.nodes.length gn) (.slice el s.leases.length gl))
            have Z1 := Lib.hid (own_put4 oj rH (by decide) (.int .i64 s.rev) (.slice ej s.jobs.length gj) (.slice en s.nodes.length gn) (.slice el s.leases.length gl))
            have Z2 := Lib.hid (own_put4 hown rH (by decide) (.int .i64 s.rev) (.slice ej s.jobs.length gj) (.slice en s.nodes.length gn) (.slice el s.leases.length gl))
            have Z3 := Lib.hid (own_put4 ol rH (by decide) (.int .i64 s.rev) (.slice ej s.jobs.length gj) (.slice en s.nodes.length gn) (.slice el s.leases.length gl))
            have t0 := objAt_cell oF 0 rfl
            have t1 := objAt_cell oF 1 rfl
            have t2 := objAt_cell oF 2 rfl
            have t3 := objAt_cell oF 3 rfl
            have TT := Lib.hid (And.intro t0 (And.intro t1 (And.intro t2 t3)))
            clear oF t0 t1 t2 t3 oL pH rH hown oj ol hbr
            go_wp2
            obtain ⟨t0, t1, t2, t3⟩ := TT.out
            exact bodyPost_ret (v := .agg #[.int .i64 s.rev, .slice ej s.jobs.length gj, .slice en s.nodes.length gn, .slice el s.leases.length gl]) (by simp [results, Tryz.results17, go_sem, t0, t1, t2, t3]) rfl ⟨_, _, _, _, _, _, rfl, Z1.out, Z2.out, Z3.out, BF.out⟩
set_option maxRecDepth 100000 in
set_option maxHeartbeats 4000000 in
theorem rup_12 (s : StD) (aj an al : Option Addr) (cj cn cl : Nat) (hl : s.jobs.length ≤ 40 ∧ s.nodes.length ≤ 40 ∧ s.leases.length ≤ 40) (w : World) (hmj : JobsAt w aj s.jobs) (hmn : NodesAt w an s.nodes) (hml : LeasesAt w al s.leases) :
    Calls Tryz.prog 17 #[.agg #[.int .i64 s.rev, .slice aj s.jobs.length cj, .slice an s.nodes.length cn, .slice al s.leases.length cl], .int .i64 1, .int .i64 2] w fun e w' => ∃ aj' cj' an' cn' al' cl', e = .returned (.agg #[.int .i64 s.rev, .slice aj' s.jobs.length cj', .slice an' s.nodes.length cn', .slice al' s.leases.length cl']) ∧ w'.ownsRow w.heap.size 50 5 (.slice aj' s.jobs.length cj') s.jobs.length (cJobs (s.jobs.map (upJ s.leases 1 2))) ∧ w'.ownsRow w.heap.size 52 3 (.slice an' s.nodes.length cn') s.nodes.length (cNodes (s.nodes.map (upN 1 2))) ∧ w'.ownsRow w.heap.size 48 3 (.slice al' s.leases.length cl') s.leases.length (cLeases s.leases) ∧ Below w.heap.size w w' := by
  obtain ⟨W0, hW0⟩ : ∃ W0, (w.alloc (.cells #[.int .i64 s.rev, .slice aj s.jobs.length cj, .slice an s.nodes.length cn, .slice al s.leases.length cl] 30)).alloc (.cells #[.int .i64 0, .slice none 0 0, .slice none 0 0, .slice none 0 0] 30) = W0 := ⟨_, rfl⟩
  obtain ⟨p0, r0, B0, sz0⟩ := two_new w _ _ _ _ _ W0 hW0
  obtain ⟨i0, qi, qz0, qz1, qz2⟩ := info_parts' Tryz.info_job
  have Hi := Lib.hid qi
  have Hz0 := Lib.hid qz0
  have Hz1 := Lib.hid qz1
  have Hz2 := Lib.hid qz2
  obtain ⟨i1, qi', qz0', qz1', qz2'⟩ := info_parts' Tryz.info_node
  have Ni := Lib.hid qi'
  have Nz0 := Lib.hid qz0'
  have Nz1 := Lib.hid qz1'
  have Nz2 := Lib.hid qz2'
  clear qi qz0 qz1 qz2 qi' qz0' qz1' qz2'
  have HM := Lib.hid (And.intro hmj (And.intro hmn hml))
  obtain ⟨hl1, hl2, hl3⟩ := hl
  have bN := below_one W0 (.cells #[.int .i64 0, .slice none 0 0, .slice none 0 0, .slice none 0 0] 30)
  have HCA := Lib.hid (copy_lease s.leases al cl hl3 W0.drew (leasesAt_next hml B0.drew))
  have HCB := Lib.hid (copy_lease s.leases al cl hl3 (W0.alloc (.cells #[.int .i64 0, .slice none 0 0, .slice none 0 0, .slice none 0 0] 30)).drew (leasesAt_next hml (below_trans B0 bN B0.size).drew))
  have OB := Lib.hid (objAt_drew (objAt_new W0 #[.int .i64 0, .slice none 0 0, .slice none 0 0, .slice none 0 0] 30))
  have t0 := refS_all (w := (W0.alloc (.cells #[.int .i64 0, .slice none 0 0, .slice none 0 0, .slice none 0 0] 30)).drew) (⟨objAt_drew (objAt_next p0 bN), objAt_drew (objAt_next r0 bN), (below_trans B0 bN B0.size).drew⟩ : RefS w.heap.size _ _ _ _ w _)
  have s0 := refS_all (w := W0.drew) (⟨objAt_drew p0, objAt_drew r0, B0.drew⟩ : RefS w.heap.size _ _ _ _ w W0.drew)
  have SZ := Lib.hid sz0
  have hb2 : w.heap.size + 1 < W0.heap.size := by omega
  clear hmj hmn hml p0 r0 B0 sz0 bN
  go_enter Tryz.func17, Tryz.ntmps17
  go_wp2_with fail
  go_cut [7] from 12 (fun lv wc => ∃ L el gl, lv = .pointer (some ⟨L, 0, none⟩) ∧ w.heap.size + 2 ≤ L ∧ ObjAt L #[.int .i64 s.rev, .slice none 0 0, .slice none 0 0, .slice el s.leases.length gl] 30 wc ∧ RefS w.heap.size (.int .i64 s.rev) (.slice aj s.jobs.length cj) (.slice an s.nodes.length cn) (.slice al s.leases.length cl) w wc ∧ wc.ownsRow w.heap.size 48 3 (.slice el s.leases.length gl) s.leases.length (cLeases s.leases))
  case first =>
    go_region_held3 (fun x => (x.cell? ⟨w.heap.size, 0, none⟩ = some (.int .i64 s.rev) ∧ x.cell? ⟨w.heap.size, 3, none⟩ = some (.slice al s.leases.length cl)) ∧ RefS w.heap.size (.int .i64 s.rev) (.slice aj s.jobs.length cj) (.slice an s.nodes.length cn) (.slice al s.leases.length cl) w x)
      (first | with_reducible assumption | with_reducible exact s0 | with_reducible exact s1.1 | with_reducible exact t0 | with_reducible exact refS_all (refS_put s1.1.2 hb2 _ _ _ _) | exact refS_all (refS_next s1.1.2 (below_one _ _)) | exact refS_all (refS_next s0.2 (below_one _ _)))
      (first
        | (go_at_call 24; (with_reducible refine HCA.out.mono ?_); rintro e x1 ⟨el, gl, rfl, ol, c1⟩; have s1 := refS_copy c1 ol s0)
        | (go_at_call 24; (with_reducible refine HCB.out.mono ?_); rintro e x1 ⟨el, gl, rfl, ol, c1⟩; have s1 := refS_copy c1 ol t0; have oB := objAt_next OB.out c1; have m0 := objAt_cell oB 0 rfl; have m1 := objAt_cell oB 1 rfl; have m2 := objAt_cell oB 2 rfl; have m3 := objAt_cell oB 3 rfl; have f0 := objAt_free oB 0; have f1 := objAt_free oB 1; have f2 := objAt_free oB 2; have f3 := objAt_free oB 3))
    · rename_i hS
      have hz := objAt_lt s1.1.2.2.1
      go_wp2_with fail
      go_meet
      case rel => exact ⟨x1.heap.size, el, gl, rfl, (by omega), objAt_new x1 _ _, hS.2, own_next s1.2 (below_one _ _)⟩
    · rename_i hS
      have hz := SZ.out
      go_wp2_with fail
      go_meet
      case rel => exact ⟨W0.heap.size, el, gl, rfl, (by omega), obj_put4 (objAt_next OB.out c1) _ _ _ _, hS.2, own_put4 s1.2 (objAt_next OB.out c1) (by decide) _ _ _ _⟩
  case rest =>
    obtain ⟨L, el, gl, rfl, hL, oL, hS, ol⟩ := hcut
    obtain ⟨pH, rH, BH⟩ := hS
    have n1 := objAt_cell pH 1 rfl
    have P0 := Lib.hid (And.intro oL (And.intro pH (And.intro rH (And.intro ol BH))))
    clear oL pH rH ol BH
    go_wp2
    go_loopw [28] (fun iv wr => ∃ (i : Nat) (pv : Value), iv = .int .i64 (i : Int) ∧ i ≤ s.jobs.length ∧ ObjAt L #[.int .i64 s.rev, pv, .slice none 0 0, .slice el s.leases.length gl] 30 wr ∧ ObjAt w.heap.size #[.int .i64 s.rev, .slice aj s.jobs.length cj, .slice an s.nodes.length cn, .slice al s.leases.length cl] 30 wr ∧ ObjAt (w.heap.size + 1) #[.int .i64 0, .slice none 0 0, .slice none 0 0, .slice none 0 0] 30 wr ∧ wr.ownsRow w.heap.size 50 5 pv i (cJobs ((s.jobs.take i).map (upJ s.leases 1 2))) ∧ wr.ownsRow w.heap.size 48 3 (.slice el s.leases.length gl) s.leases.length (cLeases s.leases) ∧ Below w.heap.size w wr) (fun iv _ => s.jobs.length - (intOf iv).toNat)
    case atStart =>
      obtain ⟨oL, pH, rH, ol, BH⟩ := P0.out
      exact ⟨0, _, rfl, Nat.zero_le _, oL, pH, rH, World.ownsRow_nil _ _ _ _, ol, BH⟩
    case round =>
      clear P0 n1
      obtain ⟨i, pv, rfl, hi, oL, pH, rH, hown, ol, hbr⟩ := hrel
      have lL := objAt_lt oL
      by_cases h : (i : Int) < (s.jobs.length : Int)
      · have hil : i < s.jobs.length := by omega
        obtain ⟨a, rfl, hal, k0, k1, k2, k3, k4⟩ := jobsAt_next HM.out.1 hbr i hil
        obtain ⟨x, hxi⟩ : ∃ x, s.jobs[i] = x := ⟨_, rfl⟩
        rw [hxi] at k0 k1 k2 k3 k4
        have HMp := Lib.hid (map_take (upJ s.leases 1 2) s.jobs i hil)
        rw [hxi] at HMp
        clear hxi
        have bA := below_one wr (.cells #[.string x.name, .int .i64 x.prio, .int .i64 x.need, .int .i64 x.tries, .string x.tag] 50)
        have oA := objAt_new wr #[.string x.name, .int .i64 x.prio, .int .i64 x.need, .int .i64 x.tries, .string x.tag] 50
        have o1' := objAt_set oA 3 (.int .i64 0)
        have C1 := bA.setCell (p := ⟨wr.heap.size, 3, none⟩) (Nat.le_refl _) (.int .i64 0)
        obtain ⟨V1, hV1⟩ : ∃ V1, (wr.alloc (.cells #[.string x.name, .int .i64 x.prio, .int .i64 x.need, .int .i64 x.tries, .string x.tag] 50)).setCell ⟨wr.heap.size, 3, none⟩ (.int .i64 0) = V1 := ⟨_, rfl⟩
        rw [hV1] at C1 o1'
        have o1 : ObjAt wr.heap.size #[.string x.name, .int .i64 x.prio, .int .i64 x.need, .int .i64 0, .string x.tag] 50 V1 := o1'
        have gA := objAt_free oA 3
        have hA := objAt_cell oA 3 rfl
        have pH1 := objAt_next pH C1
        have g3 := objAt_cell pH1 3 rfl
        have g0 := objAt_cell o1 0 rfl
        have HLe := Lib.hid (leaseAt_is s.leases al cl (by omega) x.name V1 (leasesAt_next HM.out.2.2 (below_trans hbr C1 hbr.size)))
        have O1 := Lib.hid (And.intro o1 C1)
        clear bA oA o1' C1 pH1 o1
        go_wp2_with fail
        refine HLe.out.mono ?_
        rintro e V2 ⟨rr, rfl, hat, b2⟩
        obtain ⟨o1, C1⟩ := O1.out
        have o2 := objAt_next o1 b2
        have C2 := below_trans C1 b2 C1.size
        clear gA hA g3 g0 HLe o1 C1 b2
        rcases at_has hat with ⟨hr, hh⟩ | ⟨hr, hh⟩
        · have HH := Lib.hid hh
          clear hat hh
          have gB := objAt_free o2 3
          have hB := objAt_cell o2 3 rfl
          have oK' := objAt_set o2 3 (.int .i64 1)
          have CV := C2.setCell (p := ⟨wr.heap.size, 3, none⟩) (Nat.le_refl _) (.int .i64 1)
          obtain ⟨V, hV⟩ : ∃ V, V2.setCell ⟨wr.heap.size, 3, none⟩ (.int .i64 1) = V := ⟨_, rfl⟩
          rw [hV] at CV oK'
          have oK : ObjAt wr.heap.size #[.string x.name, .int .i64 x.prio, .int .i64 x.need, .int .i64 1, .string x.tag] 50 V := oK'
          clear o2 C2 oK'
          have hown2 := own_next hown CV
          have oL2 := objAt_next oL CV
          have pH2 := objAt_next pH CV
          have rH2 := objAt_next rH CV
          have ol2 := own_next ol CV
          have B2 := below_trans hbr CV hbr.size
          have s2 := B2.size
          have u1 := objAt_cell oL2 1 rfl
          have y0 := objAt_cell oK 0 rfl
          have y1 := objAt_cell oK 1 rfl
          have y2 := objAt_cell oK 2 rfl
          have y3 := objAt_cell oK 3 rfl
          have y4 := objAt_cell oK 4 rfl
          have Q2 := Lib.hid (And.intro oL2 (And.intro pH2 (And.intro rH2 (And.intro ol2 B2))))
          clear oL pH rH ol hown hbr oL2 pH2 rH2 ol2 B2 CV oK k0 k1 k2 k3 k4 hal
          go_wp2_with (at_builtin; refine wpList_append_own _ rfl _ _ 26 rfl w.heap.size 50 i0 _ 5 56 Tryz.underlying26 Hi.out Hz0.out Hz1.out Hz2.out rfl (by decide) _ _ _ rfl (hown2.alloc _) ⟨V.heap.size, 0, none⟩ 1 1 (cJob (⟨x.name, x.prio, x.need, 1, x.tag⟩ : JobD)) rfl rfl ?c1 ?c2 ?c3 ?c4 ?c5 ?_)
          case c1 => exact job_new V (⟨x.name, x.prio, x.need, 1, x.tag⟩ : JobD) _
          case c2 => exact job_ones (⟨x.name, x.prio, x.need, 1, x.tag⟩ : JobD)
          case c3 => unfold maxLen; omega
          case c4 => omega
          case c5 => simp; omega
          · intro v3 w3 own3 hg3 _
            obtain ⟨oL2, pH2, rH2, ol2, B2⟩ := Q2.out
            have bN := below_one V (.cells #[.string x.name, .int .i64 x.prio, .int .i64 x.need, .int .i64 1, .string x.tag] 50)
            have hb3 := (below_trans B2 bN B2.size).grown hg3 (by simp; omega) (fun k hk' => (hown2.lt k hk').1)
            have oL3 := objAt_row (objAt_next oL2 bN) (own_next hown2 bN) (by decide) hg3
            have pH3 := objAt_row (objAt_next pH2 bN) (own_next hown2 bN) (by decide) hg3
            have rH3 := objAt_row (objAt_next rH2 bN) (own_next hown2 bN) (by decide) hg3
            have ol3 := own_row (own_next ol2 bN) (own_next hown2 bN) (by decide) hg3
            obtain ⟨ad3, cap3, rfl⟩ := slice_of own3
            rw [← cJobs_one, ← cJobs_append] at own3
            have own4 : w3.ownsRow w.heap.size 50 5 (.slice ad3 (i + 1) cap3) (i + 1) (cJobs ((s.jobs.take (i + 1)).map (upJ s.leases 1 2))) := by rw [HMp.out, show upJ s.leases 1 2 x = ⟨x.name, x.prio, x.need, 1, x.tag⟩ from (by simp [upJ, HH.out])]; simpa using own3
            have e1 := objAt_free oL3 1
            have e2 := objAt_cell oL3 1 rfl
            have oL4 : ObjAt L #[.int .i64 s.rev, .slice ad3 (i + 1) cap3, .slice none 0 0, .slice el s.leases.length gl] 30 _ := objAt_set oL3 1 (.slice ad3 (i + 1) cap3)
            have pH4 := objAt_other pH3 (c := L) (by omega) 1 (.slice ad3 (i + 1) cap3)
            have rH4 := objAt_other rH3 (c := L) (by omega) 1 (.slice ad3 (i + 1) cap3)
            have own5 := own_box own4 oL3 (by decide) 1 (.slice ad3 (i + 1) cap3)
            have ol4 := own_box ol3 oL3 (by decide) 1 (.slice ad3 (i + 1) cap3)
            have hb4 := hb3.setCell (p := ⟨L, 1, none⟩) (show w.heap.size ≤ L by omega) (.slice ad3 (i + 1) cap3)
            have Q4 := Lib.hid (And.intro oL4 (And.intro pH4 (And.intro rH4 (And.intro own5 (And.intro ol4 hb4)))))
            clear oL2 pH2 rH2 ol2 B2 bN hb3 oL3 pH3 rH3 ol3 own3 own4 hg3 hown2 oL4 pH4 rH4 own5 ol4 hb4 s2 u1 Q2
            go_wp2
            go_roundw
            case rel =>
              obtain ⟨oL4, pH4, rH4, own5, ol4, hb4⟩ := Q4.out
              exact ⟨i + 1, .slice ad3 (i + 1) cap3, by simp, by omega, oL4, pH4, rH4, own5, ol4, hb4⟩
            case measure => simp [intOf]; omega
        · have HH := Lib.hid hh
          clear hat hh
          have hr' : ¬ (0 : Int) ≤ rr := by omega
          obtain ⟨V, hV⟩ : ∃ V, V2 = V := ⟨_, rfl⟩
          subst hV
          have CV := C2
          have oK := o2
          clear o2 C2
          have hown2 := own_next hown CV
          have oL2 := objAt_next oL CV
          have pH2 := objAt_next pH CV
          have rH2 := objAt_next rH CV
          have ol2 := own_next ol CV
          have B2 := below_trans hbr CV hbr.size
          have s2 := B2.size
          have u1 := objAt_cell oL2 1 rfl
          have y0 := objAt_cell oK 0 rfl
          have y1 := objAt_cell oK 1 rfl
          have y2 := objAt_cell oK 2 rfl
          have y3 := objAt_cell oK 3 rfl
          have y4 := objAt_cell oK 4 rfl
          have Q2 := Lib.hid (And.intro oL2 (And.intro pH2 (And.intro rH2 (And.intro ol2 B2))))
          clear oL pH rH ol hown hbr oL2 pH2 rH2 ol2 B2 CV oK k0 k1 k2 k3 k4 hal
          go_wp2_with (at_builtin; refine wpList_append_own _ rfl _ _ 26 rfl w.heap.size 50 i0 _ 5 56 Tryz.underlying26 Hi.out Hz0.out Hz1.out Hz2.out rfl (by decide) _ _ _ rfl (hown2.alloc _) ⟨V2.heap.size, 0, none⟩ 1 1 (cJob (⟨x.name, x.prio, x.need, 0, x.tag⟩ : JobD)) rfl rfl ?c1 ?c2 ?c3 ?c4 ?c5 ?_)
          case c1 => exact job_new V2 (⟨x.name, x.prio, x.need, 0, x.tag⟩ : JobD) _
          case c2 => exact job_ones (⟨x.name, x.prio, x.need, 0, x.tag⟩ : JobD)
          case c3 => unfold maxLen; omega
          case c4 => omega
          case c5 => simp; omega
          · intro v3 w3 own3 hg3 _
            obtain ⟨oL2, pH2, rH2, ol2, B2⟩ := Q2.out
            have bN := below_one V2 (.cells #[.string x.name, .int .i64 x.prio, .int .i64 x.need, .int .i64 0, .string x.tag] 50)
            have hb3 := (below_trans B2 bN B2.size).grown hg3 (by simp; omega) (fun k hk' => (hown2.lt k hk').1)
            have oL3 := objAt_row (objAt_next oL2 bN) (own_next hown2 bN) (by decide) hg3
            have pH3 := objAt_row (objAt_next pH2 bN) (own_next hown2 bN) (by decide) hg3
            have rH3 := objAt_row (objAt_next rH2 bN) (own_next hown2 bN) (by decide) hg3
            have ol3 := own_row (own_next ol2 bN) (own_next hown2 bN) (by decide) hg3
            obtain ⟨ad3, cap3, rfl⟩ := slice_of own3
            rw [← cJobs_one, ← cJobs_append] at own3
            have own4 : w3.ownsRow w.heap.size 50 5 (.slice ad3 (i + 1) cap3) (i + 1) (cJobs ((s.jobs.take (i + 1)).map (upJ s.leases 1 2))) := by rw [HMp.out, show upJ s.leases 1 2 x = ⟨x.name, x.prio, x.need, 0, x.tag⟩ from (by simp [upJ, HH.out])]; simpa using own3
            have e1 := objAt_free oL3 1
            have e2 := objAt_cell oL3 1 rfl
            have oL4 : ObjAt L #[.int .i64 s.rev, .slice ad3 (i + 1) cap3, .slice none 0 0, .slice el s.leases.length gl] 30 _ := objAt_set oL3 1 (.slice ad3 (i + 1) cap3)
            have pH4 := objAt_other pH3 (c := L) (by omega) 1 (.slice ad3 (i + 1) cap3)
            have rH4 := objAt_other rH3 (c := L) (by omega) 1 (.slice ad3 (i + 1) cap3)
            have own5 := own_box own4 oL3 (by decide) 1 (.slice ad3 (i + 1) cap3)
            have ol4 := own_box ol3 oL3 (by decide) 1 (.slice ad3 (i + 1) cap3)
            have hb4 := hb3.setCell (p := ⟨L, 1, none⟩) (show w.heap.size ≤ L by omega) (.slice ad3 (i + 1) cap3)
            have Q4 := Lib.hid (And.intro oL4 (And.intro pH4 (And.intro rH4 (And.intro own5 (And.intro ol4 hb4)))))
            clear oL2 pH2 rH2 ol2 B2 bN hb3 oL3 pH3 rH3 ol3 own3 own4 hg3 hown2 oL4 pH4 rH4 own5 ol4 hb4 s2 u1 Q2
            go_wp2
            go_roundw
            case rel =>
              obtain ⟨oL4, pH4, rH4, own5, ol4, hb4⟩ := Q4.out
              exact ⟨i + 1, .slice ad3 (i + 1) cap3, by simp, by omega, oL4, pH4, rH4, own5, ol4, hb4⟩
            case measure => simp [intOf]; omega
      · obtain rfl : i = s.jobs.length := by omega
        rw [List.take_length] at hown
        have hlm : (s.jobs.map (upJ s.leases 1 2)).length = s.jobs.length := List.length_map _
        have hown' := hown
        rw [← hlm] at hown'
        obtain ⟨ej, gj, rfl, _⟩ := own_jobs hown'
        rw [hlm] at hown oL
        clear hown' hlm
        have n2 := objAt_cell pH 2 rfl
        have P1 := Lib.hid (And.intro oL (And.intro pH (And.intro rH (And.intro hown (And.intro ol hbr)))))
        clear oL pH rH hown ol hbr lL
        go_wp2
        go_loopw [56] (fun iv wr => ∃ (i : Nat) (pv : Value), iv = .int .i64 (i : Int) ∧ i ≤ s.nodes.length ∧ ObjAt L #[.int .i64 s.rev, .slice ej s.jobs.length gj, pv, .slice el s.leases.length gl] 30 wr ∧ ObjAt w.heap.size #[.int .i64 s.rev, .slice aj s.jobs.length cj, .slice an s.nodes.length cn, .slice al s.leases.length cl] 30 wr ∧ ObjAt (w.heap.size + 1) #[.int .i64 0, .slice none 0 0, .slice none 0 0, .slice none 0 0] 30 wr ∧ wr.ownsRow w.heap.size 52 3 pv i (cNodes ((s.nodes.take i).map (upN 1 2))) ∧ wr.ownsRow w.heap.size 50 5 (.slice ej s.jobs.length gj) s.jobs.length (cJobs (s.jobs.map (upJ s.leases 1 2))) ∧ wr.ownsRow w.heap.size 48 3 (.slice el s.leases.length gl) s.leases.length (cLeases s.leases) ∧ Below w.heap.size w wr) (fun iv _ => s.nodes.length - (intOf iv).toNat)
        case atStart =>
          obtain ⟨oL, pH, rH, oj, ol, BH⟩ := P1.out
          exact ⟨0, _, rfl, Nat.zero_le _, oL, pH, rH, World.ownsRow_nil _ _ _ _, oj, ol, BH⟩
        case round =>
          clear P1 n2
          obtain ⟨i, pv, rfl, hi, oL, pH, rH, hown, oj, ol, hbr⟩ := hrel
          have lL := objAt_lt oL
          by_cases h : (i : Int) < (s.nodes.length : Int)
          · have hil : i < s.nodes.length := by omega
            obtain ⟨a, rfl, hal, k0, k1, k2⟩ := nodesAt_next HM.out.2.1 hbr i hil
            obtain ⟨x, hxi⟩ : ∃ x, s.nodes[i] = x := ⟨_, rfl⟩
            rw [hxi] at k0 k1 k2
            have HMp := Lib.hid (map_take (upN 1 2) s.nodes i hil)
            rw [hxi] at HMp
            clear hxi
            have bA := below_one wr (.cells #[.string x.name, .int .i64 x.room, .string x.zone] 52)
            have oA := objAt_new wr #[.string x.name, .int .i64 x.room, .string x.zone] 52
            have oK' := objAt_set oA 2 (.string ⟨#[45]⟩)
            have CV := bA.setCell (p := ⟨wr.heap.size, 2, none⟩) (Nat.le_refl _) (.string ⟨#[45]⟩)
            obtain ⟨V, hV⟩ : ∃ V, (wr.alloc (.cells #[.string x.name, .int .i64 x.room, .string x.zone] 52)).setCell ⟨wr.heap.size, 2, none⟩ (.string ⟨#[45]⟩) = V := ⟨_, rfl⟩
            rw [hV] at CV oK'
            have oK : ObjAt wr.heap.size #[.string x.name, .int .i64 x.room, .string ⟨#[45]⟩] 52 V := oK'
            have gA := objAt_free oA 2
            have hA := objAt_cell oA 2 rfl
            clear bA oA oK'
            have hown2 := own_next hown CV
            have oL2 := objAt_next oL CV
            have pH2 := objAt_next pH CV
            have rH2 := objAt_next rH CV
            have ol2 := own_next ol CV
            have oj2 := own_next oj CV
            have B2 := below_trans hbr CV hbr.size
            have s2 := B2.size
            have u1 := objAt_cell oL2 2 rfl
            have y0 := objAt_cell oK 0 rfl
            have y1 := objAt_cell oK 1 rfl
            have y2 := objAt_cell oK 2 rfl
            have Q2 := Lib.hid (And.intro oL2 (And.intro pH2 (And.intro rH2 (And.intro ol2 B2))))
            clear oL pH rH ol hown hbr oL2 pH2 rH2 ol2 B2 CV oK oj
            go_wp2_with (at_builtin; refine wpList_append_own _ rfl _ _ 27 rfl w.heap.size 52 i1 _ 3 40 Tryz.underlying27 Ni.out Nz0.out Nz1.out Nz2.out rfl (by decide) _ _ _ rfl (hown2.alloc _) ⟨V.heap.size, 0, none⟩ 1 1 (cNode (⟨x.name, x.room, ⟨#[45]⟩⟩ : NodeD)) rfl rfl ?c1 ?c2 ?c3 ?c4 ?c5 ?_)
            case c1 => exact node_new V (⟨x.name, x.room, ⟨#[45]⟩⟩ : NodeD) _
            case c2 => exact node_ones (⟨x.name, x.room, ⟨#[45]⟩⟩ : NodeD)
            case c3 => unfold maxLen; omega
            case c4 => omega
            case c5 => simp; omega
            · intro v3 w3 own3 hg3 _
              obtain ⟨oL2, pH2, rH2, ol2, B2⟩ := Q2.out
              have bN := below_one V (.cells #[.string x.name, .int .i64 x.room, .string ⟨#[45]⟩] 52)
              have hb3 := (below_trans B2 bN B2.size).grown hg3 (by simp; omega) (fun k hk' => (hown2.lt k hk').1)
              have oL3 := objAt_row (objAt_next oL2 bN) (own_next hown2 bN) (by decide) hg3
              have pH3 := objAt_row (objAt_next pH2 bN) (own_next hown2 bN) (by decide) hg3
              have rH3 := objAt_row (objAt_next rH2 bN) (own_next hown2 bN) (by decide) hg3
              have ol3 := own_row (own_next ol2 bN) (own_next hown2 bN) (by decide) hg3
              have oj3 := own_row (own_next oj2 bN) (own_next hown2 bN) (by decide) hg3
              obtain ⟨ad3, cap3, rfl⟩ := slice_of own3
              rw [← cNodes_one, ← cNodes_append] at own3
              have own4 : w3.ownsRow w.heap.size 52 3 (.slice ad3 (i + 1) cap3) (i + 1) (cNodes ((s.nodes.take (i + 1)).map (upN 1 2))) := by rw [HMp.out, show upN 1 2 x = ⟨x.name, x.room, ⟨#[45]⟩⟩ from rfl]; simpa using own3
              have e1 := objAt_free oL3 2
              have e2 := objAt_cell oL3 2 rfl
              have oL4 : ObjAt L #[.int .i64 s.rev, .slice ej s.jobs.length gj, .slice ad3 (i + 1) cap3, .slice el s.leases.length gl] 30 _ := objAt_set oL3 2 (.slice ad3 (i + 1) cap3)
              have pH4 := objAt_other pH3 (c := L) (by omega) 2 (.slice ad3 (i + 1) cap3)
              have rH4 := objAt_other rH3 (c := L) (by omega) 2 (.slice ad3 (i + 1) cap3)
              have own5 := own_box own4 oL3 (by decide) 2 (.slice ad3 (i + 1) cap3)
              have ol4 := own_box ol3 oL3 (by decide) 2 (.slice ad3 (i + 1) cap3)
              have hb4 := hb3.setCell (p := ⟨L, 2, none⟩) (show w.heap.size ≤ L by omega) (.slice ad3 (i + 1) cap3)
              have oj4 := own_box oj3 oL3 (by decide) 2 (.slice ad3 (i + 1) cap3)
              have Q4 := Lib.hid (And.intro oL4 (And.intro pH4 (And.intro rH4 (And.intro own5 (And.intro ol4 hb4)))))
              have J4 := Lib.hid oj4
              clear oL2 pH2 rH2 ol2 B2 bN hb3 oL3 pH3 rH3 ol3 own3 own4 hg3 hown2 oL4 pH4 rH4 own5 ol4 hb4 s2 u1 Q2 oj2 oj3 oj4
              go_wp2
              go_roundw
              case rel =>
                obtain ⟨oL4, pH4, rH4, own5, ol4, hb4⟩ := Q4.out
                exact ⟨i + 1, .slice ad3 (i + 1) cap3, by simp, by omega, oL4, pH4, rH4, own5, J4.out, ol4, hb4⟩
              case measure => simp [intOf]; omega
          · obtain rfl : i = s.nodes.length := by omega
            rw [List.take_length] at hown
            have hlm : (s.nodes.map (upN 1 2)).length = s.nodes.length := List.length_map _
            have hown' := hown
            rw [← hlm] at hown'
            obtain ⟨en, gn, rfl, _⟩ := own_nodes hown'
            rw [hlm] at hown oL
            clear hown' hlm
            have d0 := objAt_cell oL 0 rfl
            have d1 := objAt_cell oL 1 rfl
            have d2 := objAt_cell oL 2 rfl
            have d3 := objAt_cell oL 3 rfl
            have f0 := objAt_free rH 0
            have f1 := objAt_free rH 1
            have f2 := objAt_free rH 2
            have f3 := objAt_free rH 3
            have m0 := objAt_cell rH 0 rfl
            have m1 := objAt_cell rH 1 rfl
            have m2 := objAt_cell rH 2 rfl
            have m3 := objAt_cell rH 3 rfl
            have oF := obj_put4 rH (.int .i64 s.rev) (.slice ej s.jobs.length gj) (.slice en s.nodes.length gn) (.slice el s.leases.length gl)
            have BF := Lib.hid (below_put4 hbr (b := w.heap.size + 1) (by omega) (.int .i64 s.rev) (.slice ej s.jobs.length gj) (.slice en s.nodes.length gn) (.slice el s.leases.length gl))
            have Z1 := Lib.hid (own_put4 oj rH (by decide) (.int .i64 s.rev) (.slice ej s.jobs.length gj) (.slice en s.nodes.length gn) (.slice el s.leases.length gl))
            have Z2 := Lib.hid (own_put4 hown rH (by decide) (.int .i64 s.rev) (.slice ej s.jobs.length gj) (.slice en s.nodes.length gn) (.slice el s.leases.length gl))
            have Z3 := Lib.hid (own_put4 ol rH (by decide) (.int .i64 s.rev) (.slice ej s.jobs.length gj) (.slice en s.nodes.length gn) (.slice el s.leases.length gl))
            have t0 := objAt_cell oF 0 rfl
            have t1 := objAt_cell oF 1 rfl
            have t2 := objAt_cell oF 2 rfl
            have t3 := objAt_cell oF 3 rfl
            have TT := Lib.hid (And.intro t0 (And.intro t1 (And.intro t2 t3)))
            clear oF t0 t1 t2 t3 oL pH rH hown oj ol hbr
            go_wp2
            obtain ⟨t0, t1, t2, t3⟩ := TT.out
            exact bodyPost_ret (v := .agg #[.int .i64 s.rev, .slice ej s.jobs.length gj, .slice en s.nodes.length gn, .slice el s.leases.length gl]) (by simp [results, Tryz.results17, go_sem, t0, t1, t2, t3]) rfl ⟨_, _, _, _, _, _, rfl, Z1.out, Z2.out, Z3.out, BF.out⟩
set_option maxRecDepth 100000 in
set_option maxHeartbeats 4000000 in
theorem rup_13 (s : StD) (aj an al : Option Addr) (cj cn cl : Nat) (hl : s.jobs.length ≤ 40 ∧ s.nodes.length ≤ 40 ∧ s.leases.length ≤ 40) (w : World) (hmj : JobsAt w aj s.jobs) (hmn : NodesAt w an s.nodes) (hml : LeasesAt w al s.leases) :
    Calls Tryz.prog 17 #[.agg #[.int .i64 s.rev, .slice aj s.jobs.length cj, .slice an s.nodes.length cn, .slice al s.leases.length cl], .int .i64 1, .int .i64 3] w fun e w' => ∃ aj' cj' an' cn' al' cl', e = .returned (.agg #[.int .i64 1, .slice aj' s.jobs.length cj', .slice an' s.nodes.length cn', .slice al' s.leases.length cl']) ∧ w'.ownsRow w.heap.size 50 5 (.slice aj' s.jobs.length cj') s.jobs.length (cJobs (s.jobs.map (upJ s.leases 1 3))) ∧ w'.ownsRow w.heap.size 52 3 (.slice an' s.nodes.length cn') s.nodes.length (cNodes (s.nodes.map (upN 1 3))) ∧ w'.ownsRow w.heap.size 48 3 (.slice al' s.leases.length cl') s.leases.length (cLeases s.leases) ∧ Below w.heap.size w w' := by
  obtain ⟨W0, hW0⟩ : ∃ W0, (w.alloc (.cells #[.int .i64 s.rev, .slice aj s.jobs.length cj, .slice an s.nodes.length cn, .slice al s.leases.length cl] 30)).alloc (.cells #[.int .i64 0, .slice none 0 0, .slice none 0 0, .slice none 0 0] 30) = W0 := ⟨_, rfl⟩
  obtain ⟨p0, r0, B0, sz0⟩ := two_new w _ _ _ _ _ W0 hW0
  obtain ⟨i0, qi, qz0, qz1, qz2⟩ := info_parts' Tryz.info_job
  have Hi := Lib.hid qi
  have Hz0 := Lib.hid qz0
  have Hz1 := Lib.hid qz1
  have Hz2 := Lib.hid qz2
  obtain ⟨i1, qi', qz0', qz1', qz2'⟩ := info_parts' Tryz.info_node
  have Ni := Lib.hid qi'
  have Nz0 := Lib.hid qz0'
  have Nz1 := Lib.hid qz1'
  have Nz2 := Lib.hid qz2'
  clear qi qz0 qz1 qz2 qi' qz0' qz1' qz2'
  have HM := Lib.hid (And.intro hmj (And.intro hmn hml))
  obtain ⟨hl1, hl2, hl3⟩ := hl
  have bN := below_one W0 (.cells #[.int .i64 0, .slice none 0 0, .slice none 0 0, .slice none 0 0] 30)
  have HCA := Lib.hid (copy_lease s.leases al cl hl3 W0.drew (leasesAt_next hml B0.drew))
  have HCB := Lib.hid (copy_lease s.leases al cl hl3 (W0.alloc (.cells #[.int .i64 0, .slice none 0 0, .slice none 0 0, .slice none 0 0] 30)).drew (leasesAt_next hml (below_trans B0 bN B0.size).drew))
  have OB := Lib.hid (objAt_drew (objAt_new W0 #[.int .i64 0, .slice none 0 0, .slice none 0 0, .slice none 0 0] 30))
  have t0 := refS_all (w := (W0.alloc (.cells #[.int .i64 0, .slice none 0 0, .slice none 0 0, .slice none 0 0] 30)).drew) (⟨objAt_drew (objAt_next p0 bN), objAt_drew (objAt_next r0 bN), (below_trans B0 bN B0.size).drew⟩ : RefS w.heap.size _ _ _ _ w _)
  have s0 := refS_all (w := W0.drew) (⟨objAt_drew p0, objAt_drew r0, B0.drew⟩ : RefS w.heap.size _ _ _ _ w W0.drew)
  have SZ := Lib.hid sz0
  have hb2 : w.heap.size + 1 < W0.heap.size := by omega
  clear hmj hmn hml p0 r0 B0 sz0 bN
  go_enter Tryz.func17, Tryz.ntmps17
  go_wp2_with fail
  go_cut [7] from 12 (fun lv wc => ∃ L el gl, lv = .pointer (some ⟨L, 0, none⟩) ∧ w.heap.size + 2 ≤ L ∧ ObjAt L #[.int .i64 s.rev, .slice none 0 0, .slice none 0 0, .slice el s.leases.length gl] 30 wc ∧ RefS w.heap.size (.int .i64 s.rev) (.slice aj s.jobs.length cj) (.slice an s.nodes.length cn) (.slice al s.leases.length cl) w wc ∧ wc.ownsRow w.heap.size 48 3 (.slice el s.leases.length gl) s.leases.length (cLeases s.leases))
  case first =>
    go_region_held3 (fun x => (x.cell? ⟨w.heap.size, 0, none⟩ = some (.int .i64 s.rev) ∧ x.cell? ⟨w.heap.size, 3, none⟩ = some (.slice al s.leases.length cl)) ∧ RefS w.heap.size (.int .i64 s.rev) (.slice aj s.jobs.length cj) (.slice an s.nodes.length cn) (.slice al s.leases.length cl) w x)
      (first | with_reducible assumption | with_reducible exact s0 | with_reducible exact s1.1 | with_reducible exact t0 | with_reducible exact refS_all (refS_put s1.1.2 hb2 _ _ _ _) | exact refS_all (refS_next s1.1.2 (below_one _ _)) | exact refS_all (refS_next s0.2 (below_one _ _)))
      (first
        | (go_at_call 24; (with_reducible refine HCA.out.mono ?_); rintro e x1 ⟨el, gl, rfl, ol, c1⟩; have s1 := refS_copy c1 ol s0)
        | (go_at_call 24; (with_reducible refine HCB.out.mono ?_); rintro e x1 ⟨el, gl, rfl, ol, c1⟩; have s1 := refS_copy c1 ol t0; have oB := objAt_next OB.out c1; have m0 := objAt_cell oB 0 rfl; have m1 := objAt_cell oB 1 rfl; have m2 := objAt_cell oB 2 rfl; have m3 := objAt_cell oB 3 rfl; have f0 := objAt_free oB 0; have f1 := objAt_free oB 1; have f2 := objAt_free oB 2; have f3 := objAt_free oB 3))
    · rename_i hS
      have hz := objAt_lt s1.1.2.2.1
      go_wp2_with fail
      go_meet
      case rel => exact ⟨x1.heap.size, el, gl, rfl, (by omega), objAt_new x1 _ _, hS.2, own_next s1.2 (below_one _ _)⟩
    · rename_i hS
      have hz := SZ.out
      go_wp2_with fail
      go_meet
      case rel => exact ⟨W0.heap.size, el, gl, rfl, (by omega), obj_put4 (objAt_next OB.out c1) _ _ _ _, hS.2, own_put4 s1.2 (objAt_next OB.out c1) (by decide) _ _ _ _⟩
  case rest =>
    obtain ⟨L, el, gl, rfl, hL, oL, hS, ol⟩ := hcut
    obtain ⟨pH, rH, BH⟩ := hS
    have e0 := objAt_free oL 0
    have e1 := objAt_cell oL 0 rfl
    obtain ⟨V0, hV0⟩ : ∃ V0, wc.setCell ⟨L, 0, none⟩ (.int .i64 1) = V0 := ⟨_, rfl⟩
    have oL' : ObjAt L #[.int .i64 1, .slice none 0 0, .slice none 0 0, .slice el s.leases.length gl] 30 V0 := by rw [← hV0]; exact objAt_set oL 0 (.int .i64 1)
    have pH' : ObjAt w.heap.size #[.int .i64 s.rev, .slice aj s.jobs.length cj, .slice an s.nodes.length cn, .slice al s.leases.length cl] 30 V0 := by rw [← hV0]; exact objAt_other pH (by omega) 0 _
    have rH' : ObjAt (w.heap.size + 1) #[.int .i64 0, .slice none 0 0, .slice none 0 0, .slice none 0 0] 30 V0 := by rw [← hV0]; exact objAt_other rH (by omega) 0 _
    have BH' : Below w.heap.size w V0 := by rw [← hV0]; exact BH.setCell (p := ⟨L, 0, none⟩) (show w.heap.size ≤ L by omega) _
    have ol' := own_box ol oL (by decide) 0 (.int .i64 1)
    rw [hV0] at ol'
    clear oL pH rH BH ol
    have oL := oL'
    have pH := pH'
    have rH := rH'
    have BH := BH'
    have ol := ol'
    clear oL' pH' rH' BH' ol'
    have n1 := objAt_cell pH 1 rfl
    have P0 := Lib.hid (And.intro oL (And.intro pH (And.intro rH (And.intro ol BH))))
    clear oL pH rH ol BH
    go_wp2
    go_loopw [28] (fun iv wr => ∃ (i : Nat) (pv : Value), iv = .int .i64 (i : Int) ∧ i ≤ s.jobs.length ∧ ObjAt L #[.int .i64 1, pv, .slice none 0 0, .slice el s.leases.length gl] 30 wr ∧ ObjAt w.heap.size #[.int .i64 s.rev, .slice aj s.jobs.length cj, .slice an s.nodes.length cn, .slice al s.leases.length cl] 30 wr ∧ ObjAt (w.heap.size + 1) #[.int .i64 0, .slice none 0 0, .slice none 0 0, .slice none 0 0] 30 wr ∧ wr.ownsRow w.heap.size 50 5 pv i (cJobs ((s.jobs.take i).map (upJ s.leases 1 3))) ∧ wr.ownsRow w.heap.size 48 3 (.slice el s.leases.length gl) s.leases.length (cLeases s.leases) ∧ Below w.heap.size w wr) (fun iv _ => s.jobs.length - (intOf iv).toNat)
    case atStart =>
      obtain ⟨oL, pH, rH, ol, BH⟩ := P0.out
      exact ⟨0, _, rfl, Nat.zero_le _, oL, pH, rH, World.ownsRow_nil _ _ _ _, ol, BH⟩
    case round =>
      clear P0 n1
      obtain ⟨i, pv, rfl, hi, oL, pH, rH, hown, ol, hbr⟩ := hrel
      have lL := objAt_lt oL
      by_cases h : (i : Int) < (s.jobs.length : Int)
      · have hil : i < s.jobs.length := by omega
        obtain ⟨a, rfl, hal, k0, k1, k2, k3, k4⟩ := jobsAt_next HM.out.1 hbr i hil
        obtain ⟨x, hxi⟩ : ∃ x, s.jobs[i] = x := ⟨_, rfl⟩
        rw [hxi] at k0 k1 k2 k3 k4
        have HMp := Lib.hid (map_take (upJ s.leases 1 3) s.jobs i hil)
        rw [hxi] at HMp
        clear hxi
        have bA := below_one wr (.cells #[.string x.name, .int .i64 x.prio, .int .i64 x.need, .int .i64 x.tries, .string x.tag] 50)
        have oA := objAt_new wr #[.string x.name, .int .i64 x.prio, .int .i64 x.need, .int .i64 x.tries, .string x.tag] 50
        have o1' := objAt_set oA 3 (.int .i64 0)
        have C1 := bA.setCell (p := ⟨wr.heap.size, 3, none⟩) (Nat.le_refl _) (.int .i64 0)
        obtain ⟨V1, hV1⟩ : ∃ V1, (wr.alloc (.cells #[.string x.name, .int .i64 x.prio, .int .i64 x.need, .int .i64 x.tries, .string x.tag] 50)).setCell ⟨wr.heap.size, 3, none⟩ (.int .i64 0) = V1 := ⟨_, rfl⟩
        rw [hV1] at C1 o1'
        have o1 : ObjAt wr.heap.size #[.string x.name, .int .i64 x.prio, .int .i64 x.need, .int .i64 0, .string x.tag] 50 V1 := o1'
        have gA := objAt_free oA 3
        have hA := objAt_cell oA 3 rfl
        have pH1 := objAt_next pH C1
        have g3 := objAt_cell pH1 3 rfl
        have g0 := objAt_cell o1 0 rfl
        have HLe := Lib.hid (leaseAt_is s.leases al cl (by omega) x.name V1 (leasesAt_next HM.out.2.2 (below_trans hbr C1 hbr.size)))
        have O1 := Lib.hid (And.intro o1 C1)
        clear bA oA o1' C1 pH1 o1
        go_wp2_with fail
        refine HLe.out.mono ?_
        rintro e V2 ⟨rr, rfl, hat, b2⟩
        obtain ⟨o1, C1⟩ := O1.out
        have o2 := objAt_next o1 b2
        have C2 := below_trans C1 b2 C1.size
        clear gA hA g3 g0 HLe o1 C1 b2
        rcases at_has hat with ⟨hr, hh⟩ | ⟨hr, hh⟩
        · have HH := Lib.hid hh
          clear hat hh
          have gB := objAt_free o2 3
          have hB := objAt_cell o2 3 rfl
          have oK' := objAt_set o2 3 (.int .i64 1)
          have CV := C2.setCell (p := ⟨wr.heap.size, 3, none⟩) (Nat.le_refl _) (.int .i64 1)
          obtain ⟨V, hV⟩ : ∃ V, V2.setCell ⟨wr.heap.size, 3, none⟩ (.int .i64 1) = V := ⟨_, rfl⟩
          rw [hV] at CV oK'
          have oK : ObjAt wr.heap.size #[.string x.name, .int .i64 x.prio, .int .i64 x.need, .int .i64 1, .string x.tag] 50 V := oK'
          clear o2 C2 oK'
          have hown2 := own_next hown CV
          have oL2 := objAt_next oL CV
          have pH2 := objAt_next pH CV
          have rH2 := objAt_next rH CV
          have ol2 := own_next ol CV
          have B2 := below_trans hbr CV hbr.size
          have s2 := B2.size
          have u1 := objAt_cell oL2 1 rfl
          have y0 := objAt_cell oK 0 rfl
          have y1 := objAt_cell oK 1 rfl
          have y2 := objAt_cell oK 2 rfl
          have y3 := objAt_cell oK 3 rfl
          have y4 := objAt_cell oK 4 rfl
          have Q2 := Lib.hid (And.intro oL2 (And.intro pH2 (And.intro rH2 (And.intro ol2 B2))))
          clear oL pH rH ol hown hbr oL2 pH2 rH2 ol2 B2 CV oK k0 k1 k2 k3 k4 hal
          go_wp2_with (at_builtin; refine wpList_append_own _ rfl _ _ 26 rfl w.heap.size 50 i0 _ 5 56 Tryz.underlying26 Hi.out Hz0.out Hz1.out Hz2.out rfl (by decide) _ _ _ rfl (hown2.alloc _) ⟨V.heap.size, 0, none⟩ 1 1 (cJob (⟨x.name, x.prio, x.need, 1, x.tag⟩ : JobD)) rfl rfl ?c1 ?c2 ?c3 ?c4 ?c5 ?_)
          case c1 => exact job_new V (⟨x.name, x.prio, x.need, 1, x.tag⟩ : JobD) _
          case c2 => exact job_ones (⟨x.name, x.prio, x.need, 1, x.tag⟩ : JobD)
          case c3 => unfold maxLen; omega
          case c4 => omega
          case c5 => simp; omega
          · intro v3 w3 own3 hg3 _
            obtain ⟨oL2, pH2, rH2, ol2, B2⟩ := Q2.out
            have bN := below_one V (.cells #[.string x.name, .int .i64 x.prio, .int .i64 x.need, .int .i64 1, .string x.tag] 50)
            have hb3 := (below_trans B2 bN B2.size).grown hg3 (by simp; omega) (fun k hk' => (hown2.lt k hk').1)
            have oL3 := objAt_row (objAt_next oL2 bN) (own_next hown2 bN) (by decide) hg3
            have pH3 := objAt_row (objAt_next pH2 bN) (own_next hown2 bN) (by decide) hg3
            have rH3 := objAt_row (objAt_next rH2 bN) (own_next hown2 bN) (by decide) hg3
            have ol3 := own_row (own_next ol2 bN) (own_next hown2 bN) (by decide) hg3
            obtain ⟨ad3, cap3, rfl⟩ := slice_of own3
            rw [← cJobs_one, ← cJobs_append] at own3
            have own4 : w3.ownsRow w.heap.size 50 5 (.slice ad3 (i + 1) cap3) (i + 1) (cJobs ((s.jobs.take (i + 1)).map (upJ s.leases 1 3))) := by rw [HMp.out, show upJ s.leases 1 3 x = ⟨x.name, x.prio, x.need, 1, x.tag⟩ from (by simp [upJ, HH.out])]; simpa using own3
            have e1 := objAt_free oL3 1
            have e2 := objAt_cell oL3 1 rfl
            have oL4 : ObjAt L #[.int .i64 1, .slice ad3 (i + 1) cap3, .slice none 0 0, .slice el s.leases.length gl] 30 _ := objAt_set oL3 1 (.slice ad3 (i + 1) cap3)
            have pH4 := objAt_other pH3 (c := L) (by omega) 1 (.slice ad3 (i + 1) cap3)
            have rH4 := objAt_other rH3 (c := L) (by omega) 1 (.slice ad3 (i + 1) cap3)
            have own5 := own_box own4 oL3 (by decide) 1 (.slice ad3 (i + 1) cap3)
            have ol4 := own_box ol3 oL3 (by decide) 1 (.slice ad3 (i + 1) cap3)
            have hb4 := hb3.setCell (p := ⟨L, 1, none⟩) (show w.heap.size ≤ L by omega) (.slice ad3 (i + 1) cap3)
            have Q4 := Lib.hid (And.intro oL4 (And.intro pH4 (And.intro rH4 (And.intro own5 (And.intro ol4 hb4)))))
            clear oL2 pH2 rH2 ol2 B2 bN hb3 oL3 pH3 rH3 ol3 own3 own4 hg3 hown2 oL4 pH4 rH4 own5 ol4 hb4 s2 u1 Q2
            go_wp2
            go_roundw
            case rel =>
              obtain ⟨oL4, pH4, rH4, own5, ol4, hb4⟩ := Q4.out
              exact ⟨i + 1, .slice ad3 (i + 1) cap3, by simp, by omega, oL4, pH4, rH4, own5, ol4, hb4⟩
            case measure => simp [intOf]; omega
        · have HH := Lib.hid hh
          clear hat hh
          have hr' : ¬ (0 : Int) ≤ rr := by omega
          obtain ⟨V, hV⟩ : ∃ V, V2 = V := ⟨_, rfl⟩
          subst hV
          have CV := C2
          have oK := o2
          clear o2 C2
          have hown2 := own_next hown CV
          have oL2 := objAt_next oL CV
          have pH2 := objAt_next pH CV
          have rH2 := objAt_next rH CV
          have ol2 := own_next ol CV
          have B2 := below_trans hbr CV hbr.size
          have s2 := B2.size
          have u1 := objAt_cell oL2 1 rfl
          have y0 := objAt_cell oK 0 rfl
          have y1 := objAt_cell oK 1 rfl
          have y2 := objAt_cell oK 2 rfl
          have y3 := objAt_cell oK 3 rfl
          have y4 := objAt_cell oK 4 rfl
          have Q2 := Lib.hid (And.intro oL2 (And.intro pH2 (And.intro rH2 (And.intro ol2 B2))))
          clear oL pH rH ol hown hbr oL2 pH2 rH2 ol2 B2 CV oK k0 k1 k2 k3 k4 hal
          go_wp2_with (at_builtin; refine wpList_append_own _ rfl _ _ 26 rfl w.heap.size 50 i0 _ 5 56 Tryz.underlying26 Hi.out Hz0.out Hz1.out Hz2.out rfl (by decide) _ _ _ rfl (hown2.alloc _) ⟨V2.heap.size, 0, none⟩ 1 1 (cJob (⟨x.name, x.prio, x.need, 0, x.tag⟩ : JobD)) rfl rfl ?c1 ?c2 ?c3 ?c4 ?c5 ?_)
          case c1 => exact job_new V2 (⟨x.name, x.prio, x.need, 0, x.tag⟩ : JobD) _
          case c2 => exact job_ones (⟨x.name, x.prio, x.need, 0, x.tag⟩ : JobD)
          case c3 => unfold maxLen; omega
          case c4 => omega
          case c5 => simp; omega
          · intro v3 w3 own3 hg3 _
            obtain ⟨oL2, pH2, rH2, ol2, B2⟩ := Q2.out
            have bN := below_one V2 (.cells #[.string x.name, .int .i64 x.prio, .int .i64 x.need, .int .i64 0, .string x.tag] 50)
            have hb3 := (below_trans B2 bN B2.size).grown hg3 (by simp; omega) (fun k hk' => (hown2.lt k hk').1)
            have oL3 := objAt_row (objAt_next oL2 bN) (own_next hown2 bN) (by decide) hg3
            have pH3 := objAt_row (objAt_next pH2 bN) (own_next hown2 bN) (by decide) hg3
            have rH3 := objAt_row (objAt_next rH2 bN) (own_next hown2 bN) (by decide) hg3
            have ol3 := own_row (own_next ol2 bN) (own_next hown2 bN) (by decide) hg3
            obtain ⟨ad3, cap3, rfl⟩ := slice_of own3
            rw [← cJobs_one, ← cJobs_append] at own3
            have own4 : w3.ownsRow w.heap.size 50 5 (.slice ad3 (i + 1) cap3) (i + 1) (cJobs ((s.jobs.take (i + 1)).map (upJ s.leases 1 3))) := by rw [HMp.out, show upJ s.leases 1 3 x = ⟨x.name, x.prio, x.need, 0, x.tag⟩ from (by simp [upJ, HH.out])]; simpa using own3
            have e1 := objAt_free oL3 1
            have e2 := objAt_cell oL3 1 rfl
            have oL4 : ObjAt L #[.int .i64 1, .slice ad3 (i + 1) cap3, .slice none 0 0, .slice el s.leases.length gl] 30 _ := objAt_set oL3 1 (.slice ad3 (i + 1) cap3)
            have pH4 := objAt_other pH3 (c := L) (by omega) 1 (.slice ad3 (i + 1) cap3)
            have rH4 := objAt_other rH3 (c := L) (by omega) 1 (.slice ad3 (i + 1) cap3)
            have own5 := own_box own4 oL3 (by decide) 1 (.slice ad3 (i + 1) cap3)
            have ol4 := own_box ol3 oL3 (by decide) 1 (.slice ad3 (i + 1) cap3)
            have hb4 := hb3.setCell (p := ⟨L, 1, none⟩) (show w.heap.size ≤ L by omega) (.slice ad3 (i + 1) cap3)
            have Q4 := Lib.hid (And.intro oL4 (And.intro pH4 (And.intro rH4 (And.intro own5 (And.intro ol4 hb4)))))
            clear oL2 pH2 rH2 ol2 B2 bN hb3 oL3 pH3 rH3 ol3 own3 own4 hg3 hown2 oL4 pH4 rH4 own5 ol4 hb4 s2 u1 Q2
            go_wp2
            go_roundw
            case rel =>
              obtain ⟨oL4, pH4, rH4, own5, ol4, hb4⟩ := Q4.out
              exact ⟨i + 1, .slice ad3 (i + 1) cap3, by simp, by omega, oL4, pH4, rH4, own5, ol4, hb4⟩
            case measure => simp [intOf]; omega
      · obtain rfl : i = s.jobs.length := by omega
        rw [List.take_length] at hown
        have hlm : (s.jobs.map (upJ s.leases 1 3)).length = s.jobs.length := List.length_map _
        have hown' := hown
        rw [← hlm] at hown'
        obtain ⟨ej, gj, rfl, _⟩ := own_jobs hown'
        rw [hlm] at hown oL
        clear hown' hlm
        have n2 := objAt_cell pH 2 rfl
        have P1 := Lib.hid (And.intro oL (And.intro pH (And.intro rH (And.intro hown (And.intro ol hbr)))))
        clear oL pH rH hown ol hbr lL
        go_wp2
        go_loopw [56] (fun iv wr => ∃ (i : Nat) (pv : Value), iv = .int .i64 (i : Int) ∧ i ≤ s.nodes.length ∧ ObjAt L #[.int .i64 1, .slice ej s.jobs.length gj, pv, .slice el s.leases.length gl] 30 wr ∧ ObjAt w.heap.size #[.int .i64 s.rev, .slice aj s.jobs.length cj, .slice an s.nodes.length cn, .slice al s.leases.length cl] 30 wr ∧ ObjAt (w.heap.size + 1) #[.int .i64 0, .slice none 0 0, .slice none 0 0, .slice none 0 0] 30 wr ∧ wr.ownsRow w.heap.size 52 3 pv i (cNodes ((s.nodes.take i).map (upN 1 3))) ∧ wr.ownsRow w.heap.size 50 5 (.slice ej s.jobs.length gj) s.jobs.length (cJobs (s.jobs.map (upJ s.leases 1 3))) ∧ wr.ownsRow w.heap.size 48 3 (.slice el s.leases.length gl) s.leases.length (cLeases s.leases) ∧ Below w.heap.size w wr) (fun iv _ => s.nodes.length - (intOf iv).toNat)
        case atStart =>
          obtain ⟨oL, pH, rH, oj, ol, BH⟩ := P1.out
          exact ⟨0, _, rfl, Nat.zero_le _, oL, pH, rH, World.ownsRow_nil _ _ _ _, oj, ol, BH⟩
        case round =>
          clear P1 n2
          obtain ⟨i, pv, rfl, hi, oL, pH, rH, hown, oj, ol, hbr⟩ := hrel
          have lL := objAt_lt oL
          by_cases h : (i : Int) < (s.nodes.length : Int)
          · have hil : i < s.nodes.length := by omega
            obtain ⟨a, rfl, hal, k0, k1, k2⟩ := nodesAt_next HM.out.2.1 hbr i hil
            obtain ⟨x, hxi⟩ : ∃ x, s.nodes[i] = x := ⟨_, rfl⟩
            rw [hxi] at k0 k1 k2
            have HMp := Lib.hid (map_take (upN 1 3) s.nodes i hil)
            rw [hxi] at HMp
            clear hxi
            have bA := below_one wr (.cells #[.string x.name, .int .i64 x.room, .string x.zone] 52)
            have oA := objAt_new wr #[.string x.name, .int .i64 x.room, .string x.zone] 52
            have oK' := objAt_set oA 2 (.string ⟨#[45]⟩)
            have CV := bA.setCell (p := ⟨wr.heap.size, 2, none⟩) (Nat.le_refl _) (.string ⟨#[45]⟩)
            obtain ⟨V, hV⟩ : ∃ V, (wr.alloc (.cells #[.string x.name, .int .i64 x.room, .string x.zone] 52)).setCell ⟨wr.heap.size, 2, none⟩ (.string ⟨#[45]⟩) = V := ⟨_, rfl⟩
            rw [hV] at CV oK'
            have oK : ObjAt wr.heap.size #[.string x.name, .int .i64 x.room, .string ⟨#[45]⟩] 52 V := oK'
            have gA := objAt_free oA 2
            have hA := objAt_cell oA 2 rfl
            clear bA oA oK'
            have hown2 := own_next hown CV
            have oL2 := objAt_next oL CV
            have pH2 := objAt_next pH CV
            have rH2 := objAt_next rH CV
            have ol2 := own_next ol CV
            have oj2 := own_next oj CV
            have B2 := below_trans hbr CV hbr.size
            have s2 := B2.size
            have u1 := objAt_cell oL2 2 rfl
            have y0 := objAt_cell oK 0 rfl
            have y1 := objAt_cell oK 1 rfl
            have y2 := objAt_cell oK 2 rfl
            have Q2 := Lib.hid (And.intro oL2 (And.intro pH2 (And.intro rH2 (And.intro ol2 B2))))
            clear oL pH rH ol hown hbr oL2 pH2 rH2 ol2 B2 CV oK oj
            go_wp2_with (at_builtin; refine wpList_append_own _ rfl _ _ 27 rfl w.heap.size 52 i1 _ 3 40 Tryz.underlying27 Ni.out Nz0.out Nz1.out Nz2.out rfl (by decide) _ _ _ rfl (hown2.alloc _) ⟨V.heap.size, 0, none⟩ 1 1 (cNode (⟨x.name, x.room, ⟨#[45]⟩⟩ : NodeD)) rfl rfl ?c1 ?c2 ?c3 ?c4 ?c5 ?_)
            case c1 => exact node_new V (⟨x.name, x.room, ⟨#[45]⟩⟩ : NodeD) _
            case c2 => exact node_ones (⟨x.name, x.room, ⟨#[45]⟩⟩ : NodeD)
            case c3 => unfold maxLen; omega
            case c4 => omega
            case c5 => simp; omega
            · intro v3 w3 own3 hg3 _
              obtain ⟨oL2, pH2, rH2, ol2, B2⟩ := Q2.out
              have bN := below_one V (.cells #[.string x.name, .int .i64 x.room, .string ⟨#[45]⟩] 52)
              have hb3 := (below_trans B2 bN B2.size).grown hg3 (by simp; omega) (fun k hk' => (hown2.lt k hk').1)
              have oL3 := objAt_row (objAt_next oL2 bN) (own_next hown2 bN) (by decide) hg3
              have pH3 := objAt_row (objAt_next pH2 bN) (own_next hown2 bN) (by decide) hg3
              have rH3 := objAt_row (objAt_next rH2 bN) (own_next hown2 bN) (by decide) hg3
              have ol3 := own_row (own_next ol2 bN) (own_next hown2 bN) (by decide) hg3
              have oj3 := own_row (own_next oj2 bN) (own_next hown2 bN) (by decide) hg3
              obtain ⟨ad3, cap3, rfl⟩ := slice_of own3
              rw [← cNodes_one, ← cNodes_append] at own3
              have own4 : w3.ownsRow w.heap.size 52 3 (.slice ad3 (i + 1) cap3) (i + 1) (cNodes ((s.nodes.take (i + 1)).map (upN 1 3))) := by rw [HMp.out, show upN 1 3 x = ⟨x.name, x.room, ⟨#[45]⟩⟩ from rfl]; simpa using own3
              have e1 := objAt_free oL3 2
              have e2 := objAt_cell oL3 2 rfl
              have oL4 : ObjAt L #[.int .i64 1, .slice ej s.jobs.length gj, .slice ad3 (i + 1) cap3, .slice el s.leases.length gl] 30 _ := objAt_set oL3 2 (.slice ad3 (i + 1) cap3)
              have pH4 := objAt_other pH3 (c := L) (by omega) 2 (.slice ad3 (i + 1) cap3)
              have rH4 := objAt_other rH3 (c := L) (by omega) 2 (.slice ad3 (i + 1) cap3)
              have own5 := own_box own4 oL3 (by decide) 2 (.slice ad3 (i + 1) cap3)
              have ol4 := own_box ol3 oL3 (by decide) 2 (.slice ad3 (i + 1) cap3)
              have hb4 := hb3.setCell (p := ⟨L, 2, none⟩) (show w.heap.size ≤ L by omega) (.slice ad3 (i + 1) cap3)
              have oj4 := own_box oj3 oL3 (by decide) 2 (.slice ad3 (i + 1) cap3)
              have Q4 := Lib.hid (And.intro oL4 (And.intro pH4 (And.intro rH4 (And.intro own5 (And.intro ol4 hb4)))))
              have J4 := Lib.hid oj4
              clear oL2 pH2 rH2 ol2 B2 bN hb3 oL3 pH3 rH3 ol3 own3 own4 hg3 hown2 oL4 pH4 rH4 own5 ol4 hb4 s2 u1 Q2 oj2 oj3 oj4
              go_wp2
              go_roundw
              case rel =>
                obtain ⟨oL4, pH4, rH4, own5, ol4, hb4⟩ := Q4.out
                exact ⟨i + 1, .slice ad3 (i + 1) cap3, by simp, by omega, oL4, pH4, rH4, own5, J4.out, ol4, hb4⟩
              case measure => simp [intOf]; omega
          · obtain rfl : i = s.nodes.length := by omega
            rw [List.take_length] at hown
            have hlm : (s.nodes.map (upN 1 3)).length = s.nodes.length := List.length_map _
            have hown' := hown
            rw [← hlm] at hown'
            obtain ⟨en, gn, rfl, _⟩ := own_nodes hown'
            rw [hlm] at hown oL
            clear hown' hlm
            have d0 := objAt_cell oL 0 rfl
            have d1 := objAt_cell oL 1 rfl
            have d2 := objAt_cell oL 2 rfl
            have d3 := objAt_cell oL 3 rfl
            have f0 := objAt_free rH 0
            have f1 := objAt_free rH 1
            have f2 := objAt_free rH 2
            have f3 := objAt_free rH 3
            have m0 := objAt_cell rH 0 rfl
            have m1 := objAt_cell rH 1 rfl
            have m2 := objAt_cell rH 2 rfl
            have m3 := objAt_cell rH 3 rfl
            have oF := obj_put4 rH (.int .i64 1) (.slice ej s.jobs.length gj) (.slice en s.nodes.length gn) (.slice el s.leases.length gl)
            have BF := Lib.hid (below_put4 hbr (b := w.heap.size + 1) (by omega) (.int .i64 1) (.slice ej s.jobs.length gj) (.slice en s.nodes.length gn) (.slice el s.leases.length gl))
            have Z1 := Lib.hid (own_put4 oj rH (by decide) (.int .i64 1) (.slice ej s.jobs.length gj) (.slice en s.nodes.length gn) (.slice el s.leases.length gl))
            have Z2 := Lib.hid (own_put4 hown rH (by decide) (.int .i64 1) (.slice ej s.jobs.length gj) (.slice en s.nodes.length gn) (.slice el s.leases.length gl))
            have Z3 := Lib.hid (own_put4 ol rH (by decide) (.int .i64 1) (.slice ej s.jobs.length gj) (.slice en s.nodes.length gn) (.slice el s.leases.length gl))
            have t0 := objAt_cell oF 0 rfl
            have t1 := objAt_cell oF 1 rfl
            have t2 := objAt_cell oF 2 rfl
            have t3 := objAt_cell oF 3 rfl
            have TT := Lib.hid (And.intro t0 (And.intro t1 (And.intro t2 t3)))
            clear oF t0 t1 t2 t3 oL pH rH hown oj ol hbr
            go_wp2
            obtain ⟨t0, t1, t2, t3⟩ := TT.out
            exact bodyPost_ret (v := .agg #[.int .i64 1, .slice ej s.jobs.length gj, .slice en s.nodes.length gn, .slice el s.leases.length gl]) (by simp [results, Tryz.results17, go_sem, t0, t1, t2, t3]) rfl ⟨_, _, _, _, _, _, rfl, Z1.out, Z2.out, Z3.out, BF.out⟩
set_option maxRecDepth 100000 in
set_option maxHeartbeats 4000000 in
theorem rup_22 (s : StD) (aj an al : Option Addr) (cj cn cl : Nat) (hl : s.jobs.length ≤ 40 ∧ s.nodes.length ≤ 40 ∧ s.leases.length ≤ 40) (w : World) (hmj : JobsAt w aj s.jobs) (hmn : NodesAt w an s.nodes) (hml : LeasesAt w al s.leases) :
    Calls Tryz.prog 17 #[.agg #[.int .i64 s.rev, .slice aj s.jobs.length cj, .slice an s.nodes.length cn, .slice al s.leases.length cl], .int .i64 2, .int .i64 2] w fun e w' => ∃ aj' cj' an' cn' al' cl', e = .returned (.agg #[.int .i64 s.rev, .slice aj' s.jobs.length cj', .slice an' s.nodes.length cn', .slice al' s.leases.length cl']) ∧ w'.ownsRow w.heap.size 50 5 (.slice aj' s.jobs.length cj') s.jobs.length (cJobs (s.jobs.map (upJ s.leases 2 2))) ∧ w'.ownsRow w.heap.size 52 3 (.slice an' s.nodes.length cn') s.nodes.length (cNodes (s.nodes.map (upN 2 2))) ∧ w'.ownsRow w.heap.size 48 3 (.slice al' s.leases.length cl') s.leases.length (cLeases s.leases) ∧ Below w.heap.size w w' := by
  obtain ⟨W0, hW0⟩ : ∃ W0, (w.alloc (.cells #[.int .i64 s.rev, .slice aj s.jobs.length cj, .slice an s.nodes.length cn, .slice al s.leases.length cl] 30)).alloc (.cells #[.int .i64 0, .slice none 0 0, .slice none 0 0, .slice none 0 0] 30) = W0 := ⟨_, rfl⟩
  obtain ⟨p0, r0, B0, sz0⟩ := two_new w _ _ _ _ _ W0 hW0
  obtain ⟨i0, qi, qz0, qz1, qz2⟩ := info_parts' Tryz.info_job
  have Hi := Lib.hid qi
  have Hz0 := Lib.hid qz0
  have Hz1 := Lib.hid qz1
  have Hz2 := Lib.hid qz2
  obtain ⟨i1, qi', qz0', qz1', qz2'⟩ := info_parts' Tryz.info_node
  have Ni := Lib.hid qi'
  have Nz0 := Lib.hid qz0'
  have Nz1 := Lib.hid qz1'
  have Nz2 := Lib.hid qz2'
  clear qi qz0 qz1 qz2 qi' qz0' qz1' qz2'
  have HM := Lib.hid (And.intro hmj (And.intro hmn hml))
  obtain ⟨hl1, hl2, hl3⟩ := hl
  have bN := below_one W0 (.cells #[.int .i64 0, .slice none 0 0, .slice none 0 0, .slice none 0 0] 30)
  have HCA := Lib.hid (copy_lease s.leases al cl hl3 W0.drew (leasesAt_next hml B0.drew))
  have HCB := Lib.hid (copy_lease s.leases al cl hl3 (W0.alloc (.cells #[.int .i64 0, .slice none 0 0, .slice none 0 0, .slice none 0 0] 30)).drew (leasesAt_next hml (below_trans B0 bN B0.size).drew))
  have OB := Lib.hid (objAt_drew (objAt_new W0 #[.int .i64 0, .slice none 0 0, .slice none 0 0, .slice none 0 0] 30))
  have t0 := refS_all (w := (W0.alloc (.cells #[.int .i64 0, .slice none 0 0, .slice none 0 0, .slice none 0 0] 30)).drew) (⟨objAt_drew (objAt_next p0 bN), objAt_drew (objAt_next r0 bN), (below_trans B0 bN B0.size).drew⟩ : RefS w.heap.size _ _ _ _ w _)
  have s0 := refS_all (w := W0.drew) (⟨objAt_drew p0, objAt_drew r0, B0.drew⟩ : RefS w.heap.size _ _ _ _ w W0.drew)
  have SZ := Lib.hid sz0
  have hb2 : w.heap.size + 1 < W0.heap.size := by omega
  clear hmj hmn hml p0 r0 B0 sz0 bN
  go_enter Tryz.func17, Tryz.ntmps17
  go_wp2_with fail
  go_cut [7] from 12 (fun lv wc => ∃ L el gl, lv = .pointer (some ⟨L, 0, none⟩) ∧ w.heap.size + 2 ≤ L ∧ ObjAt L #[.int .i64 s.rev, .slice none 0 0, .slice none 0 0, .slice el s.leases.length gl] 30 wc ∧ RefS w.heap.size (.int .i64 s.rev) (.slice aj s.jobs.length cj) (.slice an s.nodes.length cn) (.slice al s.leases.length cl) w wc ∧ wc.ownsRow w.heap.size 48 3 (.slice el s.leases.length gl) s.leases.length (cLeases s.leases))
  case first =>
    go_region_held3 (fun x => (x.cell? ⟨w.heap.size, 0, none⟩ = some (.int .i64 s.rev) ∧ x.cell? ⟨w.heap.size, 3, none⟩ = some (.slice al s.leases.length cl)) ∧ RefS w.heap.size (.int .i64 s.rev) (.slice aj s.jobs.length cj) (.slice an s.nodes.length cn) (.slice al s.leases.length cl) w x)
      (first | with_reducible assumption | with_reducible exact s0 | with_reducible exact s1.1 | with_reducible exact t0 | with_reducible exact refS_all (refS_put s1.1.2 hb2 _ _ _ _) | exact refS_all (refS_next s1.1.2 (below_one _ _)) | exact refS_all (refS_next s0.2 (below_one _ _)))
      (first
        | (go_at_call 24; (with_reducible refine HCA.out.mono ?_); rintro e x1 ⟨el, gl, rfl, ol, c1⟩; have s1 := refS_copy c1 ol s0)
        | (go_at_call 24; (with_reducible refine HCB.out.mono ?_); rintro e x1 ⟨el, gl, rfl, ol, c1⟩; have s1 := refS_copy c1 ol t0; have oB := objAt_next OB.out c1; have m0 := objAt_cell oB 0 rfl; have m1 := objAt_cell oB 1 rfl; have m2 := objAt_cell oB 2 rfl; have m3 := objAt_cell oB 3 rfl; have f0 := objAt_free oB 0; have f1 := objAt_free oB 1; have f2 := objAt_free oB 2; have f3 := objAt_free oB 3))
    · rename_i hS
      have hz := objAt_lt s1.1.2.2.1
      go_wp2_with fail
      go_meet
      case rel => exact ⟨x1.heap.size, el, gl, rfl, (by omega), objAt_new x1 _ _, hS.2, own_next s1.2 (below_one _ _)⟩
    · rename_i hS
      have hz := SZ.out
      go_wp2_with fail
      go_meet
      case rel => exact ⟨W0.heap.size, el, gl, rfl, (by omega), obj_put4 (objAt_next OB.out c1) _ _ _ _, hS.2, own_put4 s1.2 (objAt_next OB.out c1) (by decide) _ _ _ _⟩
  case rest =>
    obtain ⟨L, el, gl, rfl, hL, oL, hS, ol⟩ := hcut
    obtain ⟨pH, rH, BH⟩ := hS
    have n1 := objAt_cell pH 1 rfl
    have P0 := Lib.hid (And.intro oL (And.intro pH (And.intro rH (And.intro ol BH))))
    clear oL pH rH ol BH
    go_wp2
    go_loopw [28] (fun iv wr => ∃ (i : Nat) (pv : Value), iv = .int .i64 (i : Int) ∧ i ≤ s.jobs.length ∧ ObjAt L #[.int .i64 s.rev, pv, .slice none 0 0, .slice el s.leases.length gl] 30 wr ∧ ObjAt w.heap.size #[.int .i64 s.rev, .slice aj s.jobs.length cj, .slice an s.nodes.length cn, .slice al s.leases.length cl] 30 wr ∧ ObjAt (w.heap.size + 1) #[.int .i64 0, .slice none 0 0, .slice none 0 0, .slice none 0 0] 30 wr ∧ wr.ownsRow w.heap.size 50 5 pv i (cJobs ((s.jobs.take i).map (upJ s.leases 2 2))) ∧ wr.ownsRow w.heap.size 48 3 (.slice el s.leases.length gl) s.leases.length (cLeases s.leases) ∧ Below w.heap.size w wr) (fun iv _ => s.jobs.length - (intOf iv).toNat)
    case atStart =>
      obtain ⟨oL, pH, rH, ol, BH⟩ := P0.out
      exact ⟨0, _, rfl, Nat.zero_le _, oL, pH, rH, World.ownsRow_nil _ _ _ _, ol, BH⟩
    case round =>
      clear P0 n1
      obtain ⟨i, pv, rfl, hi, oL, pH, rH, hown, ol, hbr⟩ := hrel
      have lL := objAt_lt oL
      by_cases h : (i : Int) < (s.jobs.length : Int)
      · have hil : i < s.jobs.length := by omega
        obtain ⟨a, rfl, hal, k0, k1, k2, k3, k4⟩ := jobsAt_next HM.out.1 hbr i hil
        obtain ⟨x, hxi⟩ : ∃ x, s.jobs[i] = x := ⟨_, rfl⟩
        rw [hxi] at k0 k1 k2 k3 k4
        have HMp := Lib.hid (map_take (upJ s.leases 2 2) s.jobs i hil)
        rw [hxi] at HMp
        clear hxi
        obtain ⟨V, hV⟩ : ∃ V, wr.alloc (.cells #[.string x.name, .int .i64 x.prio, .int .i64 x.need, .int .i64 x.tries, .string x.tag] 50) = V := ⟨_, rfl⟩
        have CV := below_one wr (.cells #[.string x.name, .int .i64 x.prio, .int .i64 x.need, .int .i64 x.tries, .string x.tag] 50)
        have oK := objAt_new wr #[.string x.name, .int .i64 x.prio, .int .i64 x.need, .int .i64 x.tries, .string x.tag] 50
        rw [hV] at CV oK
        have hown2 := own_next hown CV
        have oL2 := objAt_next oL CV
        have pH2 := objAt_next pH CV
        have rH2 := objAt_next rH CV
        have ol2 := own_next ol CV
        have B2 := below_trans hbr CV hbr.size
        have s2 := B2.size
        have u1 := objAt_cell oL2 1 rfl
        have y0 := objAt_cell oK 0 rfl
        have y1 := objAt_cell oK 1 rfl
        have y2 := objAt_cell oK 2 rfl
        have y3 := objAt_cell oK 3 rfl
        have y4 := objAt_cell oK 4 rfl
        have Q2 := Lib.hid (And.intro oL2 (And.intro pH2 (And.intro rH2 (And.intro ol2 B2))))
        clear oL pH rH ol hown hbr oL2 pH2 rH2 ol2 B2 CV oK
        go_wp2_with (at_builtin; refine wpList_append_own _ rfl _ _ 26 rfl w.heap.size 50 i0 _ 5 56 Tryz.underlying26 Hi.out Hz0.out Hz1.out Hz2.out rfl (by decide) _ _ _ rfl (hown2.alloc _) ⟨V.heap.size, 0, none⟩ 1 1 (cJob x) rfl rfl ?c1 ?c2 ?c3 ?c4 ?c5 ?_)
        case c1 => exact job_new V x _
        case c2 => exact job_ones x
        case c3 => unfold maxLen; omega
        case c4 => omega
        case c5 => simp; omega
        · intro v3 w3 own3 hg3 _
          obtain ⟨oL2, pH2, rH2, ol2, B2⟩ := Q2.out
          have bN := below_one V (.cells #[.string x.name, .int .i64 x.prio, .int .i64 x.need, .int .i64 x.tries, .string x.tag] 50)
          have hb3 := (below_trans B2 bN B2.size).grown hg3 (by simp; omega) (fun k hk' => (hown2.lt k hk').1)
          have oL3 := objAt_row (objAt_next oL2 bN) (own_next hown2 bN) (by decide) hg3
          have pH3 := objAt_row (objAt_next pH2 bN) (own_next hown2 bN) (by decide) hg3
          have rH3 := objAt_row (objAt_next rH2 bN) (own_next hown2 bN) (by decide) hg3
          have ol3 := own_row (own_next ol2 bN) (own_next hown2 bN) (by decide) hg3
          obtain ⟨ad3, cap3, rfl⟩ := slice_of own3
          rw [← cJobs_one, ← cJobs_append] at own3
          have own4 : w3.ownsRow w.heap.size 50 5 (.slice ad3 (i + 1) cap3) (i + 1) (cJobs ((s.jobs.take (i + 1)).map (upJ s.leases 2 2))) := by rw [HMp.out, show upJ s.leases 2 2 x = x from rfl]; simpa using own3
          have e1 := objAt_free oL3 1
          have e2 := objAt_cell oL3 1 rfl
          have oL4 : ObjAt L #[.int .i64 s.rev, .slice ad3 (i + 1) cap3, .slice none 0 0, .slice el s.leases.length gl] 30 _ := objAt_set oL3 1 (.slice ad3 (i + 1) cap3)
          have pH4 := objAt_other pH3 (c := L) (by omega) 1 (.slice ad3 (i + 1) cap3)
          have rH4 := objAt_other rH3 (c := L) (by omega) 1 (.slice ad3 (i + 1) cap3)
          have own5 := own_box own4 oL3 (by decide) 1 (.slice ad3 (i + 1) cap3)
          have ol4 := own_box ol3 oL3 (by decide) 1 (.slice ad3 (i + 1) cap3)
          have hb4 := hb3.setCell (p := ⟨L, 1, none⟩) (show w.heap.size ≤ L by omega) (.slice ad3 (i + 1) cap3)
          have Q4 := Lib.hid (And.intro oL4 (And.intro pH4 (And.intro rH4 (And.intro own5 (And.intro ol4 hb4)))))
          clear oL2 pH2 rH2 ol2 B2 bN hb3 oL3 pH3 rH3 ol3 own3 own4 hg3 hown2 oL4 pH4 rH4 own5 ol4 hb4 s2 u1 Q2
          go_wp2
          go_roundw
          case rel =>
            obtain ⟨oL4, pH4, rH4, own5, ol4, hb4⟩ := Q4.out
            exact ⟨i + 1, .slice ad3 (i + 1) cap3, by simp, by omega, oL4, pH4, rH4, own5, ol4, hb4⟩
          case measure => simp [intOf]; omega
      · obtain rfl : i = s.jobs.length := by omega
        rw [List.take_length] at hown
        have hlm : (s.jobs.map (upJ s.leases 2 2)).length = s.jobs.length := List.length_map _
        have hown' := hown
        rw [← hlm] at hown'
        obtain ⟨ej, gj, rfl, _⟩ := own_jobs hown'
        rw [hlm] at hown oL
        clear hown' hlm
        have n2 := objAt_cell pH 2 rfl
        have P1 := Lib.hid (And.intro oL (And.intro pH (And.intro rH (And.intro hown (And.intro ol hbr)))))
        clear oL pH rH hown ol hbr lL
        go_wp2
        go_loopw [56] (fun iv wr => ∃ (i : Nat) (pv : Value), iv = .int .i64 (i : Int) ∧ i ≤ s.nodes.length ∧ ObjAt L #[.int .i64 s.rev, .slice ej s.jobs.length gj, pv, .slice el s.leases.length gl] 30 wr ∧ ObjAt w.heap.size #[.int .i64 s.rev, .slice aj s.jobs.length cj, .slice an s.nodes.length cn, .slice al s.leases.length cl] 30 wr ∧ ObjAt (w.heap.size + 1) #[.int .i64 0, .slice none 0 0, .slice none 0 0, .slice none 0 0] 30 wr ∧ wr.ownsRow w.heap.size 52 3 pv i (cNodes ((s.nodes.take i).map (upN 2 2))) ∧ wr.ownsRow w.heap.size 50 5 (.slice ej s.jobs.length gj) s.jobs.length (cJobs (s.jobs.map (upJ s.leases 2 2))) ∧ wr.ownsRow w.heap.size 48 3 (.slice el s.leases.length gl) s.leases.length (cLeases s.leases) ∧ Below w.heap.size w wr) (fun iv _ => s.nodes.length - (intOf iv).toNat)
        case atStart =>
          obtain ⟨oL, pH, rH, oj, ol, BH⟩ := P1.out
          exact ⟨0, _, rfl, Nat.zero_le _, oL, pH, rH, World.ownsRow_nil _ _ _ _, oj, ol, BH⟩
        case round =>
          clear P1 n2
          obtain ⟨i, pv, rfl, hi, oL, pH, rH, hown, oj, ol, hbr⟩ := hrel
          have lL := objAt_lt oL
          by_cases h : (i : Int) < (s.nodes.length : Int)
          · have hil : i < s.nodes.length := by omega
            obtain ⟨a, rfl, hal, k0, k1, k2⟩ := nodesAt_next HM.out.2.1 hbr i hil
            obtain ⟨x, hxi⟩ : ∃ x, s.nodes[i] = x := ⟨_, rfl⟩
            rw [hxi] at k0 k1 k2
            have HMp := Lib.hid (map_take (upN 2 2) s.nodes i hil)
            rw [hxi] at HMp
            clear hxi
            obtain ⟨V, hV⟩ : ∃ V, wr.alloc (.cells #[.string x.name, .int .i64 x.room, .string x.zone] 52) = V := ⟨_, rfl⟩
            have CV := below_one wr (.cells #[.string x.name, .int .i64 x.room, .string x.zone] 52)
            have oK := objAt_new wr #[.string x.name, .int .i64 x.room, .string x.zone] 52
            rw [hV] at CV oK
            have hown2 := own_next hown CV
            have oL2 := objAt_next oL CV
            have pH2 := objAt_next pH CV
            have rH2 := objAt_next rH CV
            have ol2 := own_next ol CV
            have oj2 := own_next oj CV
            have B2 := below_trans hbr CV hbr.size
            have s2 := B2.size
            have u1 := objAt_cell oL2 2 rfl
            have y0 := objAt_cell oK 0 rfl
            have y1 := objAt_cell oK 1 rfl
            have y2 := objAt_cell oK 2 rfl
            have Q2 := Lib.hid (And.intro oL2 (And.intro pH2 (And.intro rH2 (And.intro ol2 B2))))
            clear oL pH rH ol hown hbr oL2 pH2 rH2 ol2 B2 CV oK oj
            go_wp2_with (at_builtin; refine wpList_append_own _ rfl _ _ 27 rfl w.heap.size 52 i1 _ 3 40 Tryz.underlying27 Ni.out Nz0.out Nz1.out Nz2.out rfl (by decide) _ _ _ rfl (hown2.alloc _) ⟨V.heap.size, 0, none⟩ 1 1 (cNode x) rfl rfl ?c1 ?c2 ?c3 ?c4 ?c5 ?_)
            case c1 => exact node_new V x _
            case c2 => exact node_ones x
            case c3 => unfold maxLen; omega
            case c4 => omega
            case c5 => simp; omega
            · intro v3 w3 own3 hg3 _
              obtain ⟨oL2, pH2, rH2, ol2, B2⟩ := Q2.out
              have bN := below_one V (.cells #[.string x.name, .int .i64 x.room, .string x.zone] 52)
              have hb3 := (below_trans B2 bN B2.size).grown hg3 (by simp; omega) (fun k hk' => (hown2.lt k hk').1)
              have oL3 := objAt_row (objAt_next oL2 bN) (own_next hown2 bN) (by decide) hg3
              have pH3 := objAt_row (objAt_next pH2 bN) (own_next hown2 bN) (by decide) hg3
              have rH3 := objAt_row (objAt_next rH2 bN) (own_next hown2 bN) (by decide) hg3
              have ol3 := own_row (own_next ol2 bN) (own_next hown2 bN) (by decide) hg3
              have oj3 := own_row (own_next oj2 bN) (own_next hown2 bN) (by decide) hg3
              obtain ⟨ad3, cap3, rfl⟩ := slice_of own3
              rw [← cNodes_one, ← cNodes_append] at own3
              have own4 : w3.ownsRow w.heap.size 52 3 (.slice ad3 (i + 1) cap3) (i + 1) (cNodes ((s.nodes.take (i + 1)).map (upN 2 2))) := by rw [HMp.out, show upN 2 2 x = x from rfl]; simpa using own3
              have e1 := objAt_free oL3 2
              have e2 := objAt_cell oL3 2 rfl
              have oL4 : ObjAt L #[.int .i64 s.rev, .slice ej s.jobs.length gj, .slice ad3 (i + 1) cap3, .slice el s.leases.length gl] 30 _ := objAt_set oL3 2 (.slice ad3 (i + 1) cap3)
              have pH4 := objAt_other pH3 (c := L) (by omega) 2 (.slice ad3 (i + 1) cap3)
              have rH4 := objAt_other rH3 (c := L) (by omega) 2 (.slice ad3 (i + 1) cap3)
              have own5 := own_box own4 oL3 (by decide) 2 (.slice ad3 (i + 1) cap3)
              have ol4 := own_box ol3 oL3 (by decide) 2 (.slice ad3 (i + 1) cap3)
              have hb4 := hb3.setCell (p := ⟨L, 2, none⟩) (show w.heap.size ≤ L by omega) (.slice ad3 (i + 1) cap3)
              have oj4 := own_box oj3 oL3 (by decide) 2 (.slice ad3 (i + 1) cap3)
              have Q4 := Lib.hid (And.intro oL4 (And.intro pH4 (And.intro rH4 (And.intro own5 (And.intro ol4 hb4)))))
              have J4 := Lib.hid oj4
              clear oL2 pH2 rH2 ol2 B2 bN hb3 oL3 pH3 rH3 ol3 own3 own4 hg3 hown2 oL4 pH4 rH4 own5 ol4 hb4 s2 u1 Q2 oj2 oj3 oj4
              go_wp2
              go_roundw
              case rel =>
                obtain ⟨oL4, pH4, rH4, own5, ol4, hb4⟩ := Q4.out
                exact ⟨i + 1, .slice ad3 (i + 1) cap3, by simp, by omega, oL4, pH4, rH4, own5, J4.out, ol4, hb4⟩
              case measure => simp [intOf]; omega
          · obtain rfl : i = s.nodes.length := by omega
            rw [List.take_length] at hown
            have hlm : (s.nodes.map (upN 2 2)).length = s.nodes.length := List.length_map _
            have hown' := hown
            rw [← hlm] at hown'
            obtain ⟨en, gn, rfl, _⟩ := own_nodes hown'
            rw [hlm] at hown oL
            clear hown' hlm
            have d0 := objAt_cell oL 0 rfl
            have d1 := objAt_cell oL 1 rfl
            have d2 := objAt_cell oL 2 rfl
            have d3 := objAt_cell oL 3 rfl
            have f0 := objAt_free rH 0
            have f1 := objAt_free rH 1
            have f2 := objAt_free rH 2
            have f3 := objAt_free rH 3
            have m0 := objAt_cell rH 0 rfl
            have m1 := objAt_cell rH 1 rfl
            have m2 := objAt_cell rH 2 rfl
            have m3 := objAt_cell rH 3 rfl
            have oF := obj_put4 rH (.int .i64 s.rev) (.slice ej s.jobs.length gj) (.slice en s.nodes.length gn) (.slice el s.leases.length gl)
            have BF := Lib.hid (below_put4 hbr (b := w.heap.size + 1) (by omega) (.int .i64 s.rev) (.slice ej s.jobs.length gj) (.slice en s.nodes.length gn) (.slice el s.leases.length gl))
            have Z1 := Lib.hid (own_put4 oj rH (by decide) (.int .i64 s.rev) (.slice ej s.jobs.length gj) (.slice en s.nodes.length gn) (.slice el s.leases.length gl))
            have Z2 := Lib.hid (own_put4 hown rH (by decide) (.int .i64 s.rev) (.slice ej s.jobs.length gj) (.slice en s.nodes.length gn) (.slice el s.leases.length gl))
            have Z3 := Lib.hid (own_put4 ol rH (by decide) (.int .i64 s.rev) (.slice ej s.jobs.length gj) (.slice en s.nodes.length gn) (.slice el s.leases.length gl))
            have t0 := objAt_cell oF 0 rfl
            have t1 := objAt_cell oF 1 rfl
            have t2 := objAt_cell oF 2 rfl
            have t3 := objAt_cell oF 3 rfl
            have TT := Lib.hid (And.intro t0 (And.intro t1 (And.intro t2 t3)))
            clear oF t0 t1 t2 t3 oL pH rH hown oj ol hbr
            go_wp2
            obtain ⟨t0, t1, t2, t3⟩ := TT.out
            exact bodyPost_ret (v := .agg #[.int .i64 s.rev, .slice ej s.jobs.length gj, .slice en s.nodes.length gn, .slice el s.leases.length gl]) (by simp [results, Tryz.results17, go_sem, t0, t1, t2, t3]) rfl ⟨_, _, _, _, _, _, rfl, Z1.out, Z2.out, Z3.out, BF.out⟩
set_option maxRecDepth 100000 in
set_option maxHeartbeats 4000000 in
theorem rup_23 (s : StD) (aj an al : Option Addr) (cj cn cl : Nat) (hl : s.jobs.length ≤ 40 ∧ s.nodes.length ≤ 40 ∧ s.leases.length ≤ 40) (w : World) (hmj : JobsAt w aj s.jobs) (hmn : NodesAt w an s.nodes) (hml : LeasesAt w al s.leases) :
    Calls Tryz.prog 17 #[.agg #[.int .i64 s.rev, .slice aj s.jobs.length cj, .slice an s.nodes.length cn, .slice al s.leases.length cl], .int .i64 2, .int .i64 3] w fun e w' => ∃ aj' cj' an' cn' al' cl', e = .returned (.agg #[.int .i64 1, .slice aj' s.jobs.length cj', .slice an' s.nodes.length cn', .slice al' s.leases.length cl']) ∧ w'.ownsRow w.heap.size 50 5 (.slice aj' s.jobs.length cj') s.jobs.length (cJobs (s.jobs.map (upJ s.leases 2 3))) ∧ w'.ownsRow w.heap.size 52 3 (.slice an' s.nodes.length cn') s.nodes.length (cNodes (s.nodes.map (upN 2 3))) ∧ w'.ownsRow w.heap.size 48 3 (.slice al' s.leases.length cl') s.leases.length (cLeases s.leases) ∧ Below w.heap.size w w' := by
  obtain ⟨W0, hW0⟩ : ∃ W0, (w.alloc (.cells #[.int .i64 s.rev, .slice aj s.jobs.length cj, .slice an s.nodes.length cn, .slice al s.leases.length cl] 30)).alloc (.cells #[.int .i64 0, .slice none 0 0, .slice none 0 0, .slice none 0 0] 30) = W0 := ⟨_, rfl⟩
  obtain ⟨p0, r0, B0, sz0⟩ := two_new w _ _ _ _ _ W0 hW0
  obtain ⟨i0, qi, qz0, qz1, qz2⟩ := info_parts' Tryz.info_job
  have Hi := Lib.hid qi
  have Hz0 := Lib.hid qz0
  have Hz1 := Lib.hid qz1
  have Hz2 := Lib.hid qz2
  obtain ⟨i1, qi', qz0', qz1', qz2'⟩ := info_parts' Tryz.info_node
  have Ni := Lib.hid qi'
  have Nz0 := Lib.hid qz0'
  have Nz1 := Lib.hid qz1'
  have Nz2 := Lib.hid qz2'
  clear qi qz0 qz1 qz2 qi' qz0' qz1' qz2'
  have HM := Lib.hid (And.intro hmj (And.intro hmn hml))
  obtain ⟨hl1, hl2, hl3⟩ := hl
  have bN := below_one W0 (.cells #[.int .i64 0, .slice none 0 0, .slice none 0 0, .slice none 0 0] 30)
  have HCA := Lib.hid (copy_lease s.leases al cl hl3 W0.drew (leasesAt_next hml B0.drew))
  have HCB := Lib.hid (copy_lease s.leases al cl hl3 (W0.alloc (.cells #[.int .i64 0, .slice none 0 0, .slice none 0 0, .slice none 0 0] 30)).drew (leasesAt_next hml (below_trans B0 bN B0.size).drew))
  have OB := Lib.hid (objAt_drew (objAt_new W0 #[.int .i64 0, .slice none 0 0, .slice none 0 0, .slice none 0 0] 30))
  have t0 := refS_all (w := (W0.alloc (.cells #[.int .i64 0, .slice none 0 0, .slice none 0 0, .slice none 0 0] 30)).drew) (⟨objAt_drew (objAt_next p0 bN), objAt_drew (objAt_next r0 bN), (below_trans B0 bN B0.size).drew⟩ : RefS w.heap.size _ _ _ _ w _)
  have s0 := refS_all (w := W0.drew) (⟨objAt_drew p0, objAt_drew r0, B0.drew⟩ : RefS w.heap.size _ _ _ _ w W0.drew)
  have SZ := Lib.hid sz0
  have hb2 : w.heap.size + 1 < W0.heap.size := by omega
  clear hmj hmn hml p0 r0 B0 sz0 bN
  go_enter Tryz.func17, Tryz.ntmps17
  go_wp2_with fail
  go_cut [7] from 12 (fun lv wc => ∃ L el gl, lv = .pointer (some ⟨L, 0, none⟩) ∧ w.heap.size + 2 ≤ L ∧ ObjAt L #[.int .i64 s.rev, .slice none 0 0, .slice none 0 0, .slice el s.leases.length gl] 30 wc ∧ RefS w.heap.size (.int .i64 s.rev) (.slice aj s.jobs.length cj) (.slice an s.nodes.length cn) (.slice al s.leases.length cl) w wc ∧ wc.ownsRow w.heap.size 48 3 (.slice el s.leases.length gl) s.leases.length (cLeases s.leases))
  case first =>
    go_region_held3 (fun x => (x.cell? ⟨w.heap.size, 0, none⟩ = some (.int .i64 s.rev) ∧ x.cell? ⟨w.heap.size, 3, none⟩ = some (.slice al s.leases.length cl)) ∧ RefS w.heap.size (.int .i64 s.rev) (.slice aj s.jobs.length cj) (.slice an s.nodes.length cn) (.slice al s.leases.length cl) w x)
      (first | with_reducible assumption | with_reducible exact s0 | with_reducible exact s1.1 | with_reducible exact t0 | with_reducible exact refS_all (refS_put s1.1.2 hb2 _ _ _ _) | exact refS_all (refS_next s1.1.2 (below_one _ _)) | exact refS_all (refS_next s0.2 (below_one _ _)))
      (first
        | (go_at_call 24; (with_reducible refine HCA.out.mono ?_); rintro e x1 ⟨el, gl, rfl, ol, c1⟩; have s1 := refS_copy c1 ol s0)
        | (go_at_call 24; (with_reducible refine HCB.out.mono ?_); rintro e x1 ⟨el, gl, rfl, ol, c1⟩; have s1 := refS_copy c1 ol t0; have oB := objAt_next OB.out c1; have m0 := objAt_cell oB 0 rfl; have m1 := objAt_cell oB 1 rfl; have m2 := objAt_cell oB 2 rfl; have m3 := objAt_cell oB 3 rfl; have f0 := objAt_free oB 0; have f1 := objAt_free oB 1; have f2 := objAt_free oB 2; have f3 := objAt_free oB 3))
    · rename_i hS
      have hz := objAt_lt s1.1.2.2.1
      go_wp2_with fail
      go_meet
      case rel => exact ⟨x1.heap.size, el, gl, rfl, (by omega), objAt_new x1 _ _, hS.2, own_next s1.2 (below_one _ _)⟩
    · rename_i hS
      have hz := SZ.out
      go_wp2_with fail
      go_meet
      case rel => exact ⟨W0.heap.size, el, gl, rfl, (by omega), obj_put4 (objAt_next OB.out c1) _ _ _ _, hS.2, own_put4 s1.2 (objAt_next OB.out c1) (by decide) _ _ _ _⟩
  case rest =>
    obtain ⟨L, el, gl, rfl, hL, oL, hS, ol⟩ := hcut
    obtain ⟨pH, rH, BH⟩ := hS
    have e0 := objAt_free oL 0
    have e1 := objAt_cell oL 0 rfl
    obtain ⟨V0, hV0⟩ : ∃ V0, wc.setCell ⟨L, 0, none⟩ (.int .i64 1) = V0 := ⟨_, rfl⟩
    have oL' : ObjAt L #[.int .i64 1, .slice none 0 0, .slice none 0 0, .slice el s.leases.length gl] 30 V0 := by rw [← hV0]; exact objAt_set oL 0 (.int .i64 1)
    have pH' : ObjAt w.heap.size #[.int .i64 s.rev, .slice aj s.jobs.length cj, .slice an s.nodes.length cn, .slice al s.leases.length cl] 30 V0 := by rw [← hV0]; exact objAt_other pH (by omega) 0 _
    have rH' : ObjAt (w.heap.size + 1) #[.int .i64 0, .slice none 0 0, .slice none 0 0, .slice none 0 0] 30 V0 := by rw [← hV0]; exact objAt_other rH (by omega) 0 _
    have BH' : Below w.heap.size w V0 := by rw [← hV0]; exact BH.setCell (p := ⟨L, 0, none⟩) (show w.heap.size ≤ L by omega) _
    have ol' := own_box ol oL (by decide) 0 (.int .i64 1)
    rw [hV0] at ol'
    clear oL pH rH BH ol
    have oL := oL'
    have pH := pH'
    have rH := rH'
    have BH := BH'
    have ol := ol'
    clear oL' pH' rH' BH' ol'
    have n1 := objAt_cell pH 1 rfl
    have P0 := Lib.hid (And.intro oL (And.intro pH (And.intro rH (And.intro ol BH))))
    clear oL pH rH ol BH
    go_wp2
    go_loopw [28] (fun iv wr => ∃ (i : Nat) (pv : Value), iv = .int .i64 (i : Int) ∧ i ≤ s.jobs.length ∧ ObjAt L #[.int .i64 1, pv, .slice none 0 0, .slice el s.leases.length gl] 30 wr ∧ ObjAt w.heap.size #[.int .i64 s.rev, .slice aj s.jobs.length cj, .slice an s.nodes.length cn, .slice al s.leases.length cl] 30 wr ∧ ObjAt (w.heap.size + 1) #[.int .i64 0, .slice none 0 0, .slice none 0 0, .slice none 0 0] 30 wr ∧ wr.ownsRow w.heap.size 50 5 pv i (cJobs ((s.jobs.take i).map (upJ s.leases 2 3))) ∧ wr.ownsRow w.heap.size 48 3 (.slice el s.leases.length gl) s.leases.length (cLeases s.leases) ∧ Below w.heap.size w wr) (fun iv _ => s.jobs.length - (intOf iv).toNat)
    case atStart =>
      obtain ⟨oL, pH, rH, ol, BH⟩ := P0.out
      exact ⟨0, _, rfl, Nat.zero_le _, oL, pH, rH, World.ownsRow_nil _ _ _ _, ol, BH⟩
    case round =>
      clear P0 n1
      obtain ⟨i, pv, rfl, hi, oL, pH, rH, hown, ol, hbr⟩ := hrel
      have lL := objAt_lt oL
      by_cases h : (i : Int) < (s.jobs.length : Int)
      · have hil : i < s.jobs.length := by omega
        obtain ⟨a, rfl, hal, k0, k1, k2, k3, k4⟩ := jobsAt_next HM.out.1 hbr i hil
        obtain ⟨x, hxi⟩ : ∃ x, s.jobs[i] = x := ⟨_, rfl⟩
        rw [hxi] at k0 k1 k2 k3 k4
        have HMp := Lib.hid (map_take (upJ s.leases 2 3) s.jobs i hil)
        rw [hxi] at HMp
        clear hxi
        obtain ⟨V, hV⟩ : ∃ V, wr.alloc (.cells #[.string x.name, .int .i64 x.prio, .int .i64 x.need, .int .i64 x.tries, .string x.tag] 50) = V := ⟨_, rfl⟩
        have CV := below_one wr (.cells #[.string x.name, .int .i64 x.prio, .int .i64 x.need, .int .i64 x.tries, .string x.tag] 50)
        have oK := objAt_new wr #[.string x.name, .int .i64 x.prio, .int .i64 x.need, .int .i64 x.tries, .string x.tag] 50
        rw [hV] at CV oK
        have hown2 := own_next hown CV
        have oL2 := objAt_next oL CV
        have pH2 := objAt_next pH CV
        have rH2 := objAt_next rH CV
        have ol2 := own_next ol CV
        have B2 := below_trans hbr CV hbr.size
        have s2 := B2.size
        have u1 := objAt_cell oL2 1 rfl
        have y0 := objAt_cell oK 0 rfl
        have y1 := objAt_cell oK 1 rfl
        have y2 := objAt_cell oK 2 rfl
        have y3 := objAt_cell oK 3 rfl
        have y4 := objAt_cell oK 4 rfl
        have Q2 := Lib.hid (And.intro oL2 (And.intro pH2 (And.intro rH2 (And.intro ol2 B2))))
        clear oL pH rH ol hown hbr oL2 pH2 rH2 ol2 B2 CV oK
        go_wp2_with (at_builtin; refine wpList_append_own _ rfl _ _ 26 rfl w.heap.size 50 i0 _ 5 56 Tryz.underlying26 Hi.out Hz0.out Hz1.out Hz2.out rfl (by decide) _ _ _ rfl (hown2.alloc _) ⟨V.heap.size, 0, none⟩ 1 1 (cJob x) rfl rfl ?c1 ?c2 ?c3 ?c4 ?c5 ?_)
        case c1 => exact job_new V x _
        case c2 => exact job_ones x
        case c3 => unfold maxLen; omega
        case c4 => omega
        case c5 => simp; omega
        · intro v3 w3 own3 hg3 _
          obtain ⟨oL2, pH2, rH2, ol2, B2⟩ := Q2.out
          have bN := below_one V (.cells #[.string x.name, .int .i64 x.prio, .int .i64 x.need, .int .i64 x.tries, .string x.tag] 50)
          have hb3 := (below_trans B2 bN B2.size).grown hg3 (by simp; omega) (fun k hk' => (hown2.lt k hk').1)
          have oL3 := objAt_row (objAt_next oL2 bN) (own_next hown2 bN) (by decide) hg3
          have pH3 := objAt_row (objAt_next pH2 bN) (own_next hown2 bN) (by decide) hg3
          have rH3 := objAt_row (objAt_next rH2 bN) (own_next hown2 bN) (by decide) hg3
          have ol3 := own_row (own_next ol2 bN) (own_next hown2 bN) (by decide) hg3
          obtain ⟨ad3, cap3, rfl⟩ := slice_of own3
          rw [← cJobs_one, ← cJobs_append] at own3
          have own4 : w3.ownsRow w.heap.size 50 5 (.slice ad3 (i + 1) cap3) (i + 1) (cJobs ((s.jobs.take (i + 1)).map (upJ s.leases 2 3))) := by rw [HMp.out, show upJ s.leases 2 3 x = x from rfl]; simpa using own3
          have e1 := objAt_free oL3 1
          have e2 := objAt_cell oL3 1 rfl
          have oL4 : ObjAt L #[.int .i64 1, .slice ad3 (i + 1) cap3, .slice none 0 0, .slice el s.leases.length gl] 30 _ := objAt_set oL3 1 (.slice ad3 (i + 1) cap3)
          have pH4 := objAt_other pH3 (c := L) (by omega) 1 (.slice ad3 (i + 1) cap3)
          have rH4 := objAt_other rH3 (c := L) (by omega) 1 (.slice ad3 (i + 1) cap3)
          have own5 := own_box own4 oL3 (by decide) 1 (.slice ad3 (i + 1) cap3)
          have ol4 := own_box ol3 oL3 (by decide) 1 (.slice ad3 (i + 1) cap3)
          have hb4 := hb3.setCell (p := ⟨L, 1, none⟩) (show w.heap.size ≤ L by omega) (.slice ad3 (i + 1) cap3)
          have Q4 := Lib.hid (And.intro oL4 (And.intro pH4 (And.intro rH4 (And.intro own5 (And.intro ol4 hb4)))))
          clear oL2 pH2 rH2 ol2 B2 bN hb3 oL3 pH3 rH3 ol3 own3 own4 hg3 hown2 oL4 pH4 rH4 own5 ol4 hb4 s2 u1 Q2
          go_wp2
          go_roundw
          case rel =>
            obtain ⟨oL4, pH4, rH4, own5, ol4, hb4⟩ := Q4.out
            exact ⟨i + 1, .slice ad3 (i + 1) cap3, by simp, by omega, oL4, pH4, rH4, own5, ol4, hb4⟩
          case measure => simp [intOf]; omega
      · obtain rfl : i = s.jobs.length := by omega
        rw [List.take_length] at hown
        have hlm : (s.jobs.map (upJ s.leases 2 3)).length = s.jobs.length := List.length_map _
        have hown' := hown
        rw [← hlm] at hown'
        obtain ⟨ej, gj, rfl, _⟩ := own_jobs hown'
        rw [hlm] at hown oL
        clear hown' hlm
        have n2 := objAt_cell pH 2 rfl
        have P1 := Lib.hid (And.intro oL (And.intro pH (And.intro rH (And.intro hown (And.intro ol hbr)))))
        clear oL pH rH hown ol hbr lL
        go_wp2
        go_loopw [56] (fun iv wr => ∃ (i : Nat) (pv : Value), iv = .int .i64 (i : Int) ∧ i ≤ s.nodes.length ∧ ObjAt L #[.int .i64 1, .slice ej s.jobs.length gj, pv, .slice el s.leases.length gl] 30 wr ∧ ObjAt w.heap.size #[.int .i64 s.rev, .slice aj s.jobs.length cj, .slice an s.nodes.length cn, .slice al s.leases.length cl] 30 wr ∧ ObjAt (w.heap.size + 1) #[.int .i64 0, .slice none 0 0, .slice none 0 0, .slice none 0 0] 30 wr ∧ wr.ownsRow w.heap.size 52 3 pv i (cNodes ((s.nodes.take i).map (upN 2 3))) ∧ wr.ownsRow w.heap.size 50 5 (.slice ej s.jobs.length gj) s.jobs.length (cJobs (s.jobs.map (upJ s.leases 2 3))) ∧ wr.ownsRow w.heap.size 48 3 (.slice el s.leases.length gl) s.leases.length (cLeases s.leases) ∧ Below w.heap.size w wr) (fun iv _ => s.nodes.length - (intOf iv).toNat)
        case atStart =>
          obtain ⟨oL, pH, rH, oj, ol, BH⟩ := P1.out
          exact ⟨0, _, rfl, Nat.zero_le _, oL, pH, rH, World.ownsRow_nil _ _ _ _, oj, ol, BH⟩
        case round =>
          clear P1 n2
          obtain ⟨i, pv, rfl, hi, oL, pH, rH, hown, oj, ol, hbr⟩ := hrel
          have lL := objAt_lt oL
          by_cases h : (i : Int) < (s.nodes.length : Int)
          · have hil : i < s.nodes.length := by omega
            obtain ⟨a, rfl, hal, k0, k1, k2⟩ := nodesAt_next HM.out.2.1 hbr i hil
            obtain ⟨x, hxi⟩ : ∃ x, s.nodes[i] = x := ⟨_, rfl⟩
            rw [hxi] at k0 k1 k2
            have HMp := Lib.hid (map_take (upN 2 3) s.nodes i hil)
            rw [hxi] at HMp
            clear hxi
            obtain ⟨V, hV⟩ : ∃ V, wr.alloc (.cells #[.string x.name, .int .i64 x.room, .string x.zone] 52) = V := ⟨_, rfl⟩
            have CV := below_one wr (.cells #[.string x.name, .int .i64 x.room, .string x.zone] 52)
            have oK := objAt_new wr #[.string x.name, .int .i64 x.room, .string x.zone] 52
            rw [hV] at CV oK
            have hown2 := own_next hown CV
            have oL2 := objAt_next oL CV
            have pH2 := objAt_next pH CV
            have rH2 := objAt_next rH CV
            have ol2 := own_next ol CV
            have oj2 := own_next oj CV
            have B2 := below_trans hbr CV hbr.size
            have s2 := B2.size
            have u1 := objAt_cell oL2 2 rfl
            have y0 := objAt_cell oK 0 rfl
            have y1 := objAt_cell oK 1 rfl
            have y2 := objAt_cell oK 2 rfl
            have Q2 := Lib.hid (And.intro oL2 (And.intro pH2 (And.intro rH2 (And.intro ol2 B2))))
            clear oL pH rH ol hown hbr oL2 pH2 rH2 ol2 B2 CV oK oj
            go_wp2_with (at_builtin; refine wpList_append_own _ rfl _ _ 27 rfl w.heap.size 52 i1 _ 3 40 Tryz.underlying27 Ni.out Nz0.out Nz1.out Nz2.out rfl (by decide) _ _ _ rfl (hown2.alloc _) ⟨V.heap.size, 0, none⟩ 1 1 (cNode x) rfl rfl ?c1 ?c2 ?c3 ?c4 ?c5 ?_)
            case c1 => exact node_new V x _
            case c2 => exact node_ones x
            case c3 => unfold maxLen; omega
            case c4 => omega
            case c5 => simp; omega
            · intro v3 w3 own3 hg3 _
              obtain ⟨oL2, pH2, rH2, ol2, B2⟩ := Q2.out
              have bN := below_one V (.cells #[.string x.name, .int .i64 x.room, .string x.zone] 52)
              have hb3 := (below_trans B2 bN B2.size).grown hg3 (by simp; omega) (fun k hk' => (hown2.lt k hk').1)
              have oL3 := objAt_row (objAt_next oL2 bN) (own_next hown2 bN) (by decide) hg3
              have pH3 := objAt_row (objAt_next pH2 bN) (own_next hown2 bN) (by decide) hg3
              have rH3 := objAt_row (objAt_next rH2 bN) (own_next hown2 bN) (by decide) hg3
              have ol3 := own_row (own_next ol2 bN) (own_next hown2 bN) (by decide) hg3
              have oj3 := own_row (own_next oj2 bN) (own_next hown2 bN) (by decide) hg3
              obtain ⟨ad3, cap3, rfl⟩ := slice_of own3
              rw [← cNodes_one, ← cNodes_append] at own3
              have own4 : w3.ownsRow w.heap.size 52 3 (.slice ad3 (i + 1) cap3) (i + 1) (cNodes ((s.nodes.take (i + 1)).map (upN 2 3))) := by rw [HMp.out, show upN 2 3 x = x from rfl]; simpa using own3
              have e1 := objAt_free oL3 2
              have e2 := objAt_cell oL3 2 rfl
              have oL4 : ObjAt L #[.int .i64 1, .slice ej s.jobs.length gj, .slice ad3 (i + 1) cap3, .slice el s.leases.length gl] 30 _ := objAt_set oL3 2 (.slice ad3 (i + 1) cap3)
              have pH4 := objAt_other pH3 (c := L) (by omega) 2 (.slice ad3 (i + 1) cap3)
              have rH4 := objAt_other rH3 (c := L) (by omega) 2 (.slice ad3 (i + 1) cap3)
              have own5 := own_box own4 oL3 (by decide) 2 (.slice ad3 (i + 1) cap3)
              have ol4 := own_box ol3 oL3 (by decide) 2 (.slice ad3 (i + 1) cap3)
              have hb4 := hb3.setCell (p := ⟨L, 2, none⟩) (show w.heap.size ≤ L by omega) (.slice ad3 (i + 1) cap3)
              have oj4 := own_box oj3 oL3 (by decide) 2 (.slice ad3 (i + 1) cap3)
              have Q4 := Lib.hid (And.intro oL4 (And.intro pH4 (And.intro rH4 (And.intro own5 (And.intro ol4 hb4)))))
              have J4 := Lib.hid oj4
              clear oL2 pH2 rH2 ol2 B2 bN hb3 oL3 pH3 rH3 ol3 own3 own4 hg3 hown2 oL4 pH4 rH4 own5 ol4 hb4 s2 u1 Q2 oj2 oj3 oj4
              go_wp2
              go_roundw
              case rel =>
                obtain ⟨oL4, pH4, rH4, own5, ol4, hb4⟩ := Q4.out
                exact ⟨i + 1, .slice ad3 (i + 1) cap3, by simp, by omega, oL4, pH4, rH4, own5, J4.out, ol4, hb4⟩
              case measure => simp [intOf]; omega
          · obtain rfl : i = s.nodes.length := by omega
            rw [List.take_length] at hown
            have hlm : (s.nodes.map (upN 2 3)).length = s.nodes.length := List.length_map _
            have hown' := hown
            rw [← hlm] at hown'
            obtain ⟨en, gn, rfl, _⟩ := own_nodes hown'
            rw [hlm] at hown oL
            clear hown' hlm
            have d0 := objAt_cell oL 0 rfl
            have d1 := objAt_cell oL 1 rfl
            have d2 := objAt_cell oL 2 rfl
            have d3 := objAt_cell oL 3 rfl
            have f0 := objAt_free rH 0
            have f1 := objAt_free rH 1
            have f2 := objAt_free rH 2
            have f3 := objAt_free rH 3
            have m0 := objAt_cell rH 0 rfl
            have m1 := objAt_cell rH 1 rfl
            have m2 := objAt_cell rH 2 rfl
            have m3 := objAt_cell rH 3 rfl
            have oF := obj_put4 rH (.int .i64 1) (.slice ej s.jobs.length gj) (.slice en s.nodes.length gn) (.slice el s.leases.length gl)
            have BF := Lib.hid (below_put4 hbr (b := w.heap.size + 1) (by omega) (.int .i64 1) (.slice ej s.jobs.length gj) (.slice en s.nodes.length gn) (.slice el s.leases.length gl))
            have Z1 := Lib.hid (own_put4 oj rH (by decide) (.int .i64 1) (.slice ej s.jobs.length gj) (.slice en s.nodes.length gn) (.slice el s.leases.length gl))
            have Z2 := Lib.hid (own_put4 hown rH (by decide) (.int .i64 1) (.slice ej s.jobs.length gj) (.slice en s.nodes.length gn) (.slice el s.leases.length gl))
            have Z3 := Lib.hid (own_put4 ol rH (by decide) (.int .i64 1) (.slice ej s.jobs.length gj) (.slice en s.nodes.length gn) (.slice el s.leases.length gl))
            have t0 := objAt_cell oF 0 rfl
            have t1 := objAt_cell oF 1 rfl
            have t2 := objAt_cell oF 2 rfl
            have t3 := objAt_cell oF 3 rfl
            have TT := Lib.hid (And.intro t0 (And.intro t1 (And.intro t2 t3)))
            clear oF t0 t1 t2 t3 oL pH rH hown oj ol hbr
            go_wp2
            obtain ⟨t0, t1, t2, t3⟩ := TT.out
            exact bodyPost_ret (v := .agg #[.int .i64 1, .slice ej s.jobs.length gj, .slice en s.nodes.length gn, .slice el s.leases.length gl]) (by simp [results, Tryz.results17, go_sem, t0, t1, t2, t3]) rfl ⟨_, _, _, _, _, _, rfl, Z1.out, Z2.out, Z3.out, BF.out⟩
set_option maxRecDepth 100000 in
set_option maxHeartbeats 4000000 in
theorem rup_33 (s : StD) (aj an al : Option Addr) (cj cn cl : Nat) (hl : s.jobs.length ≤ 40 ∧ s.nodes.length ≤ 40 ∧ s.leases.length ≤ 40) (w : World) (hmj : JobsAt w aj s.jobs) (hmn : NodesAt w an s.nodes) (hml : LeasesAt w al s.leases) :
    Calls Tryz.prog 17 #[.agg #[.int .i64 s.rev, .slice aj s.jobs.length cj, .slice an s.nodes.length cn, .slice al s.leases.length cl], .int .i64 3, .int .i64 3] w fun e w' => ∃ aj' cj' an' cn' al' cl', e = .returned (.agg #[.int .i64 s.rev, .slice aj' s.jobs.length cj', .slice an' s.nodes.length cn', .slice al' s.leases.length cl']) ∧ w'.ownsRow w.heap.size 50 5 (.slice aj' s.jobs.length cj') s.jobs.length (cJobs (s.jobs.map (upJ s.leases 3 3))) ∧ w'.ownsRow w.heap.size 52 3 (.slice an' s.nodes.length cn') s.nodes.length (cNodes (s.nodes.map (upN 3 3))) ∧ w'.ownsRow w.heap.size 48 3 (.slice al' s.leases.length cl') s.leases.length (cLeases s.leases) ∧ Below w.heap.size w w' := by
  obtain ⟨W0, hW0⟩ : ∃ W0, (w.alloc (.cells #[.int .i64 s.rev, .slice aj s.jobs.length cj, .slice an s.nodes.length cn, .slice al s.leases.length cl] 30)).alloc (.cells #[.int .i64 0, .slice none 0 0, .slice none 0 0, .slice none 0 0] 30) = W0 := ⟨_, rfl⟩
  obtain ⟨p0, r0, B0, sz0⟩ := two_new w _ _ _ _ _ W0 hW0
  obtain ⟨i0, qi, qz0, qz1, qz2⟩ := info_parts' Tryz.info_job
  have Hi := Lib.hid qi
  have Hz0 := Lib.hid qz0
  have Hz1 := Lib.hid qz1
  have Hz2 := Lib.hid qz2
  obtain ⟨i1, qi', qz0', qz1', qz2'⟩ := info_parts' Tryz.info_node
  have Ni := Lib.hid qi'
  have Nz0 := Lib.hid qz0'
  have Nz1 := Lib.hid qz1'
  have Nz2 := Lib.hid qz2'
  clear qi qz0 qz1 qz2 qi' qz0' qz1' qz2'
  have HM := Lib.hid (And.intro hmj (And.intro hmn hml))
  obtain ⟨hl1, hl2, hl3⟩ := hl
  have bN := below_one W0 (.cells #[.int .i64 0, .slice none 0 0, .slice none 0 0, .slice none 0 0] 30)
  have HCA := Lib.hid (copy_lease s.leases al cl hl3 W0.drew (leasesAt_next hml B0.drew))
  have HCB := Lib.hid (copy_lease s.leases al cl hl3 (W0.alloc (.cells #[.int .i64 0, .slice none 0 0, .slice none 0 0, .slice none 0 0] 30)).drew (leasesAt_next hml (below_trans B0 bN B0.size).drew))
  have OB := Lib.hid (objAt_drew (objAt_new W0 #[.int .i64 0, .slice none 0 0, .slice none 0 0, .slice none 0 0] 30))
  have t0 := refS_all (w := (W0.alloc (.cells #[.int .i64 0, .slice none 0 0, .slice none 0 0, .slice none 0 0] 30)).drew) (⟨objAt_drew (objAt_next p0 bN), objAt_drew (objAt_next r0 bN), (below_trans B0 bN B0.size).drew⟩ : RefS w.heap.size _ _ _ _ w _)
  have s0 := refS_all (w := W0.drew) (⟨objAt_drew p0, objAt_drew r0, B0.drew⟩ : RefS w.heap.size _ _ _ _ w W0.drew)
  have SZ := Lib.hid sz0
  have hb2 : w.heap.size + 1 < W0.heap.size := by omega
  clear hmj hmn hml p0 r0 B0 sz0 bN
  go_enter Tryz.func17, Tryz.ntmps17
  go_wp2_with fail
  go_cut [7] from 12 (fun lv wc => ∃ L el gl, lv = .pointer (some ⟨L, 0, none⟩) ∧ w.heap.size + 2 ≤ L ∧ ObjAt L #[.int .i64 s.rev, .slice none 0 0, .slice none 0 0, .slice el s.leases.length gl] 30 wc ∧ RefS w.heap.size (.int .i64 s.rev) (.slice aj s.jobs.length cj) (.slice an s.nodes.length cn) (.slice al s.leases.length cl) w wc ∧ wc.ownsRow w.heap.size 48 3 (.slice el s.leases.length gl) s.leases.length (cLeases s.leases))
  case first =>
    go_region_held3 (fun x => (x.cell? ⟨w.heap.size, 0, none⟩ = some (.int .i64 s.rev) ∧ x.cell? ⟨w.heap.size, 3, none⟩ = some (.slice al s.leases.length cl)) ∧ RefS w.heap.size (.int .i64 s.rev) (.slice aj s.jobs.length cj) (.slice an s.nodes.length cn) (.slice al s.leases.length cl) w x)
      (first | with_reducible assumption | with_reducible exact s0 | with_reducible exact s1.1 | with_reducible exact t0 | with_reducible exact refS_all (refS_put s1.1.2 hb2 _ _ _ _) | exact refS_all (refS_next s1.1.2 (below_one _ _)) | exact refS_all (refS_next s0.2 (below_one _ _)))
      (first
        | (go_at_call 24; (with_reducible refine HCA.out.mono ?_); rintro e x1 ⟨el, gl, rfl, ol, c1⟩; have s1 := refS_copy c1 ol s0)
        | (go_at_call 24; (with_reducible refine HCB.out.mono ?_); rintro e x1 ⟨el, gl, rfl, ol, c1⟩; have s1 := refS_copy c1 ol t0; have oB := objAt_next OB.out c1; have m0 := objAt_cell oB 0 rfl; have m1 := objAt_cell oB 1 rfl; have m2 := objAt_cell oB 2 rfl; have m3 := objAt_cell oB 3 rfl; have f0 := objAt_free oB 0; have f1 := objAt_free oB 1; have f2 := objAt_free oB 2; have f3 := objAt_free oB 3))
    · rename_i hS
      have hz := objAt_lt s1.1.2.2.1
      go_wp2_with fail
      go_meet
      case rel => exact ⟨x1.heap.size, el, gl, rfl, (by omega), objAt_new x1 _ _, hS.2, own_next s1.2 (below_one _ _)⟩
    · rename_i hS
      have hz := SZ.out
      go_wp2_with fail
      go_meet
      case rel => exact ⟨W0.heap.size, el, gl, rfl, (by omega), obj_put4 (objAt_next OB.out c1) _ _ _ _, hS.2, own_put4 s1.2 (objAt_next OB.out c1) (by decide) _ _ _ _⟩
  case rest =>
    obtain ⟨L, el, gl, rfl, hL, oL, hS, ol⟩ := hcut
    obtain ⟨pH, rH, BH⟩ := hS
    have n1 := objAt_cell pH 1 rfl
    have P0 := Lib.hid (And.intro oL (And.intro pH (And.intro rH (And.intro ol BH))))
    clear oL pH rH ol BH
    go_wp2
    go_loopw [28] (fun iv wr => ∃ (i : Nat) (pv : Value), iv = .int .i64 (i : Int) ∧ i ≤ s.jobs.length ∧ ObjAt L #[.int .i64 s.rev, pv, .slice none 0 0, .slice el s.leases.length gl] 30 wr ∧ ObjAt w.heap.size #[.int .i64 s.rev, .slice aj s.jobs.length cj, .slice an s.nodes.length cn, .slice al s.leases.length cl] 30 wr ∧ ObjAt (w.heap.size + 1) #[.int .i64 0, .slice none 0 0, .slice none 0 0, .slice none 0 0] 30 wr ∧ wr.ownsRow w.heap.size 50 5 pv i (cJobs ((s.jobs.take i).map (upJ s.leases 3 3))) ∧ wr.ownsRow w.heap.size 48 3 (.slice el s.leases.length gl) s.leases.length (cLeases s.leases) ∧ Below w.heap.size w wr) (fun iv _ => s.jobs.length - (intOf iv).toNat)
    case atStart =>
      obtain ⟨oL, pH, rH, ol, BH⟩ := P0.out
      exact ⟨0, _, rfl, Nat.zero_le _, oL, pH, rH, World.ownsRow_nil _ _ _ _, ol, BH⟩
    case round =>
      clear P0 n1
      obtain ⟨i, pv, rfl, hi, oL, pH, rH, hown, ol, hbr⟩ := hrel
      have lL := objAt_lt oL
      by_cases h : (i : Int) < (s.jobs.length : Int)
      · have hil : i < s.jobs.length := by omega
        obtain ⟨a, rfl, hal, k0, k1, k2, k3, k4⟩ := jobsAt_next HM.out.1 hbr i hil
        obtain ⟨x, hxi⟩ : ∃ x, s.jobs[i] = x := ⟨_, rfl⟩
        rw [hxi] at k0 k1 k2 k3 k4
        have HMp := Lib.hid (map_take (upJ s.leases 3 3) s.jobs i hil)
        rw [hxi] at HMp
        clear hxi
        obtain ⟨V, hV⟩ : ∃ V, wr.alloc (.cells #[.string x.name, .int .i64 x.prio, .int .i64 x.need, .int .i64 x.tries, .string x.tag] 50) = V := ⟨_, rfl⟩
        have CV := below_one wr (.cells #[.string x.name, .int .i64 x.prio, .int .i64 x.need, .int .i64 x.tries, .string x.tag] 50)
        have oK := objAt_new wr #[.string x.name, .int .i64 x.prio, .int .i64 x.need, .int .i64 x.tries, .string x.tag] 50
        rw [hV] at CV oK
        have hown2 := own_next hown CV
        have oL2 := objAt_next oL CV
        have pH2 := objAt_next pH CV
        have rH2 := objAt_next rH CV
        have ol2 := own_next ol CV
        have B2 := below_trans hbr CV hbr.size
        have s2 := B2.size
        have u1 := objAt_cell oL2 1 rfl
        have y0 := objAt_cell oK 0 rfl
        have y1 := objAt_cell oK 1 rfl
        have y2 := objAt_cell oK 2 rfl
        have y3 := objAt_cell oK 3 rfl
        have y4 := objAt_cell oK 4 rfl
        have Q2 := Lib.hid (And.intro oL2 (And.intro pH2 (And.intro rH2 (And.intro ol2 B2))))
        clear oL pH rH ol hown hbr oL2 pH2 rH2 ol2 B2 CV oK
        go_wp2_with (at_builtin; refine wpList_append_own _ rfl _ _ 26 rfl w.heap.size 50 i0 _ 5 56 Tryz.underlying26 Hi.out Hz0.out Hz1.out Hz2.out rfl (by decide) _ _ _ rfl (hown2.alloc _) ⟨V.heap.size, 0, none⟩ 1 1 (cJob x) rfl rfl ?c1 ?c2 ?c3 ?c4 ?c5 ?_)
        case c1 => exact job_new V x _
        case c2 => exact job_ones x
        case c3 => unfold maxLen; omega
        case c4 => omega
        case c5 => simp; omega
        · intro v3 w3 own3 hg3 _
          obtain ⟨oL2, pH2, rH2, ol2, B2⟩ := Q2.out
          have bN := below_one V (.cells #[.string x.name, .int .i64 x.prio, .int .i64 x.need, .int .i64 x.tries, .string x.tag] 50)
          have hb3 := (below_trans B2 bN B2.size).grown hg3 (by simp; omega) (fun k hk' => (hown2.lt k hk').1)
          have oL3 := objAt_row (objAt_next oL2 bN) (own_next hown2 bN) (by decide) hg3
          have pH3 := objAt_row (objAt_next pH2 bN) (own_next hown2 bN) (by decide) hg3
          have rH3 := objAt_row (objAt_next rH2 bN) (own_next hown2 bN) (by decide) hg3
          have ol3 := own_row (own_next ol2 bN) (own_next hown2 bN) (by decide) hg3
          obtain ⟨ad3, cap3, rfl⟩ := slice_of own3
          rw [← cJobs_one, ← cJobs_append] at own3
          have own4 : w3.ownsRow w.heap.size 50 5 (.slice ad3 (i + 1) cap3) (i + 1) (cJobs ((s.jobs.take (i + 1)).map (upJ s.leases 3 3))) := by rw [HMp.out, show upJ s.leases 3 3 x = x from rfl]; simpa using own3
          have e1 := objAt_free oL3 1
          have e2 := objAt_cell oL3 1 rfl
          have oL4 : ObjAt L #[.int .i64 s.rev, .slice ad3 (i + 1) cap3, .slice none 0 0, .slice el s.leases.length gl] 30 _ := objAt_set oL3 1 (.slice ad3 (i + 1) cap3)
          have pH4 := objAt_other pH3 (c := L) (by omega) 1 (.slice ad3 (i + 1) cap3)
          have rH4 := objAt_other rH3 (c := L) (by omega) 1 (.slice ad3 (i + 1) cap3)
          have own5 := own_box own4 oL3 (by decide) 1 (.slice ad3 (i + 1) cap3)
          have ol4 := own_box ol3 oL3 (by decide) 1 (.slice ad3 (i + 1) cap3)
          have hb4 := hb3.setCell (p := ⟨L, 1, none⟩) (show w.heap.size ≤ L by omega) (.slice ad3 (i + 1) cap3)
          have Q4 := Lib.hid (And.intro oL4 (And.intro pH4 (And.intro rH4 (And.intro own5 (And.intro ol4 hb4)))))
          clear oL2 pH2 rH2 ol2 B2 bN hb3 oL3 pH3 rH3 ol3 own3 own4 hg3 hown2 oL4 pH4 rH4 own5 ol4 hb4 s2 u1 Q2
          go_wp2
          go_roundw
          case rel =>
            obtain ⟨oL4, pH4, rH4, own5, ol4, hb4⟩ := Q4.out
            exact ⟨i + 1, .slice ad3 (i + 1) cap3, by simp, by omega, oL4, pH4, rH4, own5, ol4, hb4⟩
          case measure => simp [intOf]; omega
      · obtain rfl : i = s.jobs.length := by omega
        rw [List.take_length] at hown
        have hlm : (s.jobs.map (upJ s.leases 3 3)).length = s.jobs.length := List.length_map _
        have hown' := hown
        rw [← hlm] at hown'
        obtain ⟨ej, gj, rfl, _⟩ := own_jobs hown'
        rw [hlm] at hown oL
        clear hown' hlm
        have n2 := objAt_cell pH 2 rfl
        have P1 := Lib.hid (And.intro oL (And.intro pH (And.intro rH (And.intro hown (And.intro ol hbr)))))
        clear oL pH rH hown ol hbr lL
        go_wp2
        go_loopw [56] (fun iv wr => ∃ (i : Nat) (pv : Value), iv = .int .i64 (i : Int) ∧ i ≤ s.nodes.length ∧ ObjAt L #[.int .i64 s.rev, .slice ej s.jobs.length gj, pv, .slice el s.leases.length gl] 30 wr ∧ ObjAt w.heap.size #[.int .i64 s.rev, .slice aj s.jobs.length cj, .slice an s.nodes.length cn, .slice al s.leases.length cl] 30 wr ∧ ObjAt (w.heap.size + 1) #[.int .i64 0, .slice none 0 0, .slice none 0 0, .slice none 0 0] 30 wr ∧ wr.ownsRow w.heap.size 52 3 pv i (cNodes ((s.nodes.take i).map (upN 3 3))) ∧ wr.ownsRow w.heap.size 50 5 (.slice ej s.jobs.length gj) s.jobs.length (cJobs (s.jobs.map (upJ s.leases 3 3))) ∧ wr.ownsRow w.heap.size 48 3 (.slice el s.leases.length gl) s.leases.length (cLeases s.leases) ∧ Below w.heap.size w wr) (fun iv _ => s.nodes.length - (intOf iv).toNat)
        case atStart =>
          obtain ⟨oL, pH, rH, oj, ol, BH⟩ := P1.out
          exact ⟨0, _, rfl, Nat.zero_le _, oL, pH, rH, World.ownsRow_nil _ _ _ _, oj, ol, BH⟩
        case round =>
          clear P1 n2
          obtain ⟨i, pv, rfl, hi, oL, pH, rH, hown, oj, ol, hbr⟩ := hrel
          have lL := objAt_lt oL
          by_cases h : (i : Int) < (s.nodes.length : Int)
          · have hil : i < s.nodes.length := by omega
            obtain ⟨a, rfl, hal, k0, k1, k2⟩ := nodesAt_next HM.out.2.1 hbr i hil
            obtain ⟨x, hxi⟩ : ∃ x, s.nodes[i] = x := ⟨_, rfl⟩
            rw [hxi] at k0 k1 k2
            have HMp := Lib.hid (map_take (upN 3 3) s.nodes i hil)
            rw [hxi] at HMp
            clear hxi
            obtain ⟨V, hV⟩ : ∃ V, wr.alloc (.cells #[.string x.name, .int .i64 x.room, .string x.zone] 52) = V := ⟨_, rfl⟩
            have CV := below_one wr (.cells #[.string x.name, .int .i64 x.room, .string x.zone] 52)
            have oK := objAt_new wr #[.string x.name, .int .i64 x.room, .string x.zone] 52
            rw [hV] at CV oK
            have hown2 := own_next hown CV
            have oL2 := objAt_next oL CV
            have pH2 := objAt_next pH CV
            have rH2 := objAt_next rH CV
            have ol2 := own_next ol CV
            have oj2 := own_next oj CV
            have B2 := below_trans hbr CV hbr.size
            have s2 := B2.size
            have u1 := objAt_cell oL2 2 rfl
            have y0 := objAt_cell oK 0 rfl
            have y1 := objAt_cell oK 1 rfl
            have y2 := objAt_cell oK 2 rfl
            have Q2 := Lib.hid (And.intro oL2 (And.intro pH2 (And.intro rH2 (And.intro ol2 B2))))
            clear oL pH rH ol hown hbr oL2 pH2 rH2 ol2 B2 CV oK oj
            go_wp2_with (at_builtin; refine wpList_append_own _ rfl _ _ 27 rfl w.heap.size 52 i1 _ 3 40 Tryz.underlying27 Ni.out Nz0.out Nz1.out Nz2.out rfl (by decide) _ _ _ rfl (hown2.alloc _) ⟨V.heap.size, 0, none⟩ 1 1 (cNode x) rfl rfl ?c1 ?c2 ?c3 ?c4 ?c5 ?_)
            case c1 => exact node_new V x _
            case c2 => exact node_ones x
            case c3 => unfold maxLen; omega
            case c4 => omega
            case c5 => simp; omega
            · intro v3 w3 own3 hg3 _
              obtain ⟨oL2, pH2, rH2, ol2, B2⟩ := Q2.out
              have bN := below_one V (.cells #[.string x.name, .int .i64 x.room, .string x.zone] 52)
              have hb3 := (below_trans B2 bN B2.size).grown hg3 (by simp; omega) (fun k hk' => (hown2.lt k hk').1)
              have oL3 := objAt_row (objAt_next oL2 bN) (own_next hown2 bN) (by decide) hg3
              have pH3 := objAt_row (objAt_next pH2 bN) (own_next hown2 bN) (by decide) hg3
              have rH3 := objAt_row (objAt_next rH2 bN) (own_next hown2 bN) (by decide) hg3
              have ol3 := own_row (own_next ol2 bN) (own_next hown2 bN) (by decide) hg3
              have oj3 := own_row (own_next oj2 bN) (own_next hown2 bN) (by decide) hg3
              obtain ⟨ad3, cap3, rfl⟩ := slice_of own3
              rw [← cNodes_one, ← cNodes_append] at own3
              have own4 : w3.ownsRow w.heap.size 52 3 (.slice ad3 (i + 1) cap3) (i + 1) (cNodes ((s.nodes.take (i + 1)).map (upN 3 3))) := by rw [HMp.out, show upN 3 3 x = x from rfl]; simpa using own3
              have e1 := objAt_free oL3 2
              have e2 := objAt_cell oL3 2 rfl
              have oL4 : ObjAt L #[.int .i64 s.rev, .slice ej s.jobs.length gj, .slice ad3 (i + 1) cap3, .slice el s.leases.length gl] 30 _ := objAt_set oL3 2 (.slice ad3 (i + 1) cap3)
              have pH4 := objAt_other pH3 (c := L) (by omega) 2 (.slice ad3 (i + 1) cap3)
              have rH4 := objAt_other rH3 (c := L) (by omega) 2 (.slice ad3 (i + 1) cap3)
              have own5 := own_box own4 oL3 (by decide) 2 (.slice ad3 (i + 1) cap3)
              have ol4 := own_box ol3 oL3 (by decide) 2 (.slice ad3 (i + 1) cap3)
              have hb4 := hb3.setCell (p := ⟨L, 2, none⟩) (show w.heap.size ≤ L by omega) (.slice ad3 (i + 1) cap3)
              have oj4 := own_box oj3 oL3 (by decide) 2 (.slice ad3 (i + 1) cap3)
              have Q4 := Lib.hid (And.intro oL4 (And.intro pH4 (And.intro rH4 (And.intro own5 (And.intro ol4 hb4)))))
              have J4 := Lib.hid oj4
              clear oL2 pH2 rH2 ol2 B2 bN hb3 oL3 pH3 rH3 ol3 own3 own4 hg3 hown2 oL4 pH4 rH4 own5 ol4 hb4 s2 u1 Q2 oj2 oj3 oj4
              go_wp2
              go_roundw
              case rel =>
                obtain ⟨oL4, pH4, rH4, own5, ol4, hb4⟩ := Q4.out
                exact ⟨i + 1, .slice ad3 (i + 1) cap3, by simp, by omega, oL4, pH4, rH4, own5, J4.out, ol4, hb4⟩
              case measure => simp [intOf]; omega
          · obtain rfl : i = s.nodes.length := by omega
            rw [List.take_length] at hown
            have hlm : (s.nodes.map (upN 3 3)).length = s.nodes.length := List.length_map _
            have hown' := hown
            rw [← hlm] at hown'
            obtain ⟨en, gn, rfl, _⟩ := own_nodes hown'
            rw [hlm] at hown oL
            clear hown' hlm
            have d0 := objAt_cell oL 0 rfl
            have d1 := objAt_cell oL 1 rfl
            have d2 := objAt_cell oL 2 rfl
            have d3 := objAt_cell oL 3 rfl
            have f0 := objAt_free rH 0
            have f1 := objAt_free rH 1
            have f2 := objAt_free rH 2
            have f3 := objAt_free rH 3
            have m0 := objAt_cell rH 0 rfl
            have m1 := objAt_cell rH 1 rfl
            have m2 := objAt_cell rH 2 rfl
            have m3 := objAt_cell rH 3 rfl
            have oF := obj_put4 rH (.int .i64 s.rev) (.slice ej s.jobs.length gj) (.slice en s.nodes.length gn) (.slice el s.leases.length gl)
            have BF := Lib.hid (below_put4 hbr (b := w.heap.size + 1) (by omega) (.int .i64 s.rev) (.slice ej s.jobs.length gj) (.slice en s.nodes.length gn) (.slice el s.leases.length gl))
            have Z1 := Lib.hid (own_put4 oj rH (by decide) (.int .i64 s.rev) (.slice ej s.jobs.length gj) (.slice en s.nodes.length gn) (.slice el s.leases.length gl))
            have Z2 := Lib.hid (own_put4 hown rH (by decide) (.int .i64 s.rev) (.slice ej s.jobs.length gj) (.slice en s.nodes.length gn) (.slice el s.leases.length gl))
            have Z3 := Lib.hid (own_put4 ol rH (by decide) (.int .i64 s.rev) (.slice ej s.jobs.length gj) (.slice en s.nodes.length gn) (.slice el s.leases.length gl))
            have t0 := objAt_cell oF 0 rfl
            have t1 := objAt_cell oF 1 rfl
            have t2 := objAt_cell oF 2 rfl
            have t3 := objAt_cell oF 3 rfl
            have TT := Lib.hid (And.intro t0 (And.intro t1 (And.intro t2 t3)))
            clear oF t0 t1 t2 t3 oL pH rH hown oj ol hbr
            go_wp2
            obtain ⟨t0, t1, t2, t3⟩ := TT.out
            exact bodyPost_ret (v := .agg #[.int .i64 s.rev, .slice ej s.jobs.length gj, .slice en s.nodes.length gn, .slice el s.leases.length gl]) (by simp [results, Tryz.results17, go_sem, t0, t1, t2, t3]) rfl ⟨_, _, _, _, _, _, rfl, Z1.out, Z2.out, Z3.out, BF.out⟩
theorem rup_any (s : StD) (aj an al : Option Addr) (cj cn cl : Nat) (a b : Int) (hab : 1 ≤ a ∧ a ≤ b ∧ b ≤ 3) (hl : s.jobs.length ≤ 40 ∧ s.nodes.length ≤ 40 ∧ s.leases.length ≤ 40) (w : World) (hmj : JobsAt w aj s.jobs) (hmn : NodesAt w an s.nodes) (hml : LeasesAt w al s.leases) :
    Calls Tryz.prog 17 #[.agg #[.int .i64 s.rev, .slice aj s.jobs.length cj, .slice an s.nodes.length cn, .slice al s.leases.length cl], .int .i64 a, .int .i64 b] w fun e w' => ∃ aj' an' al' cj' cn' cl', e = .returned (.agg #[.int .i64 (upS a b s).rev, .slice aj' (upS a b s).jobs.length cj', .slice an' (upS a b s).nodes.length cn', .slice al' (upS a b s).leases.length cl']) ∧ OwnS w.heap.size aj' an' al' cj' cn' cl' (upS a b s) w' ∧ Below w.heap.size w w' := by
  have : (a = 1 ∧ b = 1) ∨ (a = 1 ∧ b = 2) ∨ (a = 1 ∧ b = 3) ∨ (a = 2 ∧ b = 2) ∨ (a = 2 ∧ b = 3) ∨ (a = 3 ∧ b = 3) := by omega
  rcases this with ⟨rfl, rfl⟩ | ⟨rfl, rfl⟩ | ⟨rfl, rfl⟩ | ⟨rfl, rfl⟩ | ⟨rfl, rfl⟩ | ⟨rfl, rfl⟩
  · refine (rup_11 s aj an al cj cn cl hl w hmj hmn hml).mono ?_
    rintro e w' ⟨aj', cj', an', cn', al', cl', rfl, o1, o2, o3, hb⟩
    have e1 : (upS 1 1 s).jobs.length = s.jobs.length := (up_lens 1 1 s).1
    have e2 : (upS 1 1 s).nodes.length = s.nodes.length := (up_lens 1 1 s).2.1
    refine ⟨aj', an', al', cj', cn', cl', ?_, ⟨?_, ?_, ?_⟩, hb⟩
    · rw [e1, e2]; rfl
    · rw [e1]; exact o1
    · rw [e2]; exact o2
    · exact o3
  · refine (rup_12 s aj an al cj cn cl hl w hmj hmn hml).mono ?_
    rintro e w' ⟨aj', cj', an', cn', al', cl', rfl, o1, o2, o3, hb⟩
    have e1 : (upS 1 2 s).jobs.length = s.jobs.length := (up_lens 1 2 s).1
    have e2 : (upS 1 2 s).nodes.length = s.nodes.length := (up_lens 1 2 s).2.1
    refine ⟨aj', an', al', cj', cn', cl', ?_, ⟨?_, ?_, ?_⟩, hb⟩
    · rw [e1, e2]; rfl
    · rw [e1]; exact o1
    · rw [e2]; exact o2
    · exact o3
  · refine (rup_13 s aj an al cj cn cl hl w hmj hmn hml).mono ?_
    rintro e w' ⟨aj', cj', an', cn', al', cl', rfl, o1, o2, o3, hb⟩
    have e1 : (upS 1 3 s).jobs.length = s.jobs.length := (up_lens 1 3 s).1
    have e2 : (upS 1 3 s).nodes.length = s.nodes.length := (up_lens 1 3 s).2.1
    refine ⟨aj', an', al', cj', cn', cl', ?_, ⟨?_, ?_, ?_⟩, hb⟩
    · rw [e1, e2]; rfl
    · rw [e1]; exact o1
    · rw [e2]; exact o2
    · exact o3
  · refine (rup_22 s aj an al cj cn cl hl w hmj hmn hml).mono ?_
    rintro e w' ⟨aj', cj', an', cn', al', cl', rfl, o1, o2, o3, hb⟩
    have e1 : (upS 2 2 s).jobs.length = s.jobs.length := (up_lens 2 2 s).1
    have e2 : (upS 2 2 s).nodes.length = s.nodes.length := (up_lens 2 2 s).2.1
    refine ⟨aj', an', al', cj', cn', cl', ?_, ⟨?_, ?_, ?_⟩, hb⟩
    · rw [e1, e2]; rfl
    · rw [e1]; exact o1
    · rw [e2]; exact o2
    · exact o3
  · refine (rup_23 s aj an al cj cn cl hl w hmj hmn hml).mono ?_
    rintro e w' ⟨aj', cj', an', cn', al', cl', rfl, o1, o2, o3, hb⟩
    have e1 : (upS 2 3 s).jobs.length = s.jobs.length := (up_lens 2 3 s).1
    have e2 : (upS 2 3 s).nodes.length = s.nodes.length := (up_lens 2 3 s).2.1
    refine ⟨aj', an', al', cj', cn', cl', ?_, ⟨?_, ?_, ?_⟩, hb⟩
    · rw [e1, e2]; rfl
    · rw [e1]; exact o1
    · rw [e2]; exact o2
    · exact o3
  · refine (rup_33 s aj an al cj cn cl hl w hmj hmn hml).mono ?_
    rintro e w' ⟨aj', cj', an', cn', al', cl', rfl, o1, o2, o3, hb⟩
    have e1 : (upS 3 3 s).jobs.length = s.jobs.length := (up_lens 3 3 s).1
    have e2 : (upS 3 3 s).nodes.length = s.nodes.length := (up_lens 3 3 s).2.1
    refine ⟨aj', an', al', cj', cn', cl', ?_, ⟨?_, ?_, ?_⟩, hb⟩
    · rw [e1, e2]; rfl
    · rw [e1]; exact o1
    · rw [e2]; exact o2
    · exact o3
end Go.Proofs.YtclopkpfeofjmaaGreatDoor
