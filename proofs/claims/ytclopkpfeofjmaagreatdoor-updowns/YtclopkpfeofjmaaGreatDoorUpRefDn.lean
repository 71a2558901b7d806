/- The reference's Down. -/
import Derived.Test.YtclopkpfeofjmaaGreatDoorUpRefSt
namespace Go.Proofs.YtclopkpfeofjmaaGreatDoor
open Go.RowKit

set_option maxRecDepth 100000 in
set_option maxHeartbeats 4000000 in
theorem rdown_1 (s : StD) (aj an al : Option Addr) (cj cn cl : Nat) (hck : checkE V8 s = 0) (w : World) (hmj : JobsAt w aj s.jobs) (hmn : NodesAt w an s.nodes) (hml : LeasesAt w al s.leases) :
    Calls Tryz.prog 8 #[.agg #[.int .i64 s.rev, .slice aj s.jobs.length cj, .slice an s.nodes.length cn, .slice al s.leases.length cl], .int .i64 1] w fun e w' => ∃ (aj' : Option Addr) (cj' : Nat) (an' : Option Addr) (cn' : Nat) (al' : Option Addr) (cl' : Nat) (c : Bool), e = .returned (.tuple #[.agg #[.int .i64 0, .slice aj' s.jobs.length cj', .slice an' s.nodes.length cn', .slice al' s.leases.length cl'], .bool c, .int .i64 0]) ∧ (c = true ↔ upS 1 3 (dnS 1 s) = s) ∧ w'.ownsRow w.heap.size 50 5 (.slice aj' s.jobs.length cj') s.jobs.length (cJobs (s.jobs.map (dnJ 1))) ∧ w'.ownsRow w.heap.size 52 3 (.slice an' s.nodes.length cn') s.nodes.length (cNodes (s.nodes.map (dnN 1))) ∧ w'.ownsRow w.heap.size 48 3 (.slice al' s.leases.length cl') s.leases.length (cLeases s.leases) ∧ Below w.heap.size w w' := by
  obtain ⟨hl, _⟩ := small_valid hck
  have HZs := Lib.hid (size3_valid hck)
  have HRc := rcheck_any s.rev aj an al cj cn cl s.jobs s.nodes s.leases
  rw [show (⟨s.rev, s.jobs, s.nodes, s.leases⟩ : StD) = s from rfl, hck] at HRc
  have HRc := Lib.hid HRc
  have HO := Lib.hid (fun w => outside_is 1 1 3 w)
  have hin : inR 1 1 3 = true := by decide
  rw [hin] at HO
  clear hin
  obtain ⟨U, hU⟩ : ∃ U, upS 1 3 (dnS 1 s) = U := ⟨_, rfl⟩
  rw [hU]
  have HUp := fun ej en el gj gn gl W hj hn hle => rup_any (dnS 1 s) ej en el gj gn gl 1 3 (by omega) (by have e := dn_lens 1 s; rw [e.1, e.2.1, e.2.2]; exact hl) W hj hn hle
  have eD := dn_lens 1 s
  rw [hU, eD.1, eD.2.1, eD.2.2] at HUp
  have eR : (dnS 1 s).rev = 0 := rfl
  rw [eR] at HUp
  have HUp := Lib.hid HUp
  have HZU := Lib.hid (show U.jobs.length ≤ 140737488355328 ∧ U.nodes.length ≤ 140737488355328 ∧ U.leases.length ≤ 140737488355328 by
    have e := up_lens 1 3 (dnS 1 s)
    rw [hU] at e
    rw [e.1, e.2.1, e.2.2, eD.1, eD.2.1, eD.2.2]
    have := HZs.out
    omega)
  clear hU eD eR
  obtain ⟨W0, hW0⟩ : ∃ W0, (w.alloc (.cells #[.int .i64 s.rev, .slice aj s.jobs.length cj, .slice an s.nodes.length cn, .slice al s.leases.length cl] 30)).alloc (.cells #[.int .i64 0, .slice none 0 0, .slice none 0 0, .slice none 0 0] 30) = W0 := ⟨_, rfl⟩
  obtain ⟨p0, r0, B0, sz0⟩ := two_new w _ _ _ _ _ W0 hW0
  obtain ⟨i0, qi, qz0, qz1, qz2⟩ := info_parts' Tryz.info_job
  have Hi := Lib.hid qi
  have Hz0 := Lib.hid qz0
  have Hz1 := Lib.hid qz1
  have Hz2 := Lib.hid qz2
  obtain ⟨i1, qi', qz0', qz1', qz2'⟩ := info_parts' Tryz.info_node
  have Ni := Lib.hid qi'
  have Nz0 := Lib.hid qz0'
  have Nz1 := Lib.hid qz1'
  have Nz2 := Lib.hid qz2'
  clear qi qz0 qz1 qz2 qi' qz0' qz1' qz2'
  have HM := Lib.hid (And.intro hmj (And.intro hmn hml))
  obtain ⟨hl1, hl2, hl3⟩ := hl
  have HRc0 := Lib.hid (HRc.out W0 (jobsAt_next hmj B0) (nodesAt_next hmn B0) (leasesAt_next hml B0))
  have h0 := objAt_cell p0 0 rfl
  have h1 := objAt_cell p0 1 rfl
  have h2 := objAt_cell p0 2 rfl
  have h3 := objAt_cell p0 3 rfl
  have P00 := Lib.hid (And.intro p0 (And.intro r0 (And.intro B0 sz0)))
  clear hmj hmn hml p0 r0 B0 sz0 hck HRc
  go_enter Tryz.func8, Tryz.ntmps8
  go_wp2_with fail
  refine HRc0.out.mono ?_
  rintro e W1 ⟨rfl, b1⟩
  clear h0 h1 h2 h3 HRc0
  go_wp2_with fail
  refine (HO.out _).mono ?_
  rintro e w' ⟨rfl, rfl⟩
  obtain ⟨p00, r00, B00, sz00⟩ := P00.out
  have p0 := objAt_next p00 b1
  have r0 := objAt_next r00 b1
  have B0 := below_trans B00 b1 B00.size
  have sz0 : w.heap.size + 2 ≤ W1.heap.size := by have := b1.size; omega
  clear p00 r00 B00 sz00 b1 P00
  have bN := below_one W1 (.cells #[.int .i64 0, .slice none 0 0, .slice none 0 0, .slice none 0 0] 30)
  have HCA := Lib.hid (copy_lease s.leases al cl hl3 W1.drew (leasesAt_next HM.out.2.2 B0.drew))
  have HCB := Lib.hid (copy_lease s.leases al cl hl3 (W1.alloc (.cells #[.int .i64 0, .slice none 0 0, .slice none 0 0, .slice none 0 0] 30)).drew (leasesAt_next HM.out.2.2 (below_trans B0 bN B0.size).drew))
  have OB := Lib.hid (objAt_drew (objAt_new W1 #[.int .i64 0, .slice none 0 0, .slice none 0 0, .slice none 0 0] 30))
  have t0 := refS_all (w := (W1.alloc (.cells #[.int .i64 0, .slice none 0 0, .slice none 0 0, .slice none 0 0] 30)).drew) (⟨objAt_drew (objAt_next p0 bN), objAt_drew (objAt_next r0 bN), (below_trans B0 bN B0.size).drew⟩ : RefS w.heap.size _ _ _ _ w _)
  have s0 := refS_all (w := W1.drew) (⟨objAt_drew p0, objAt_drew r0, B0.drew⟩ : RefS w.heap.size _ _ _ _ w W1.drew)
  have SZ := Lib.hid sz0
  have hb2 : w.heap.size + 1 < W1.heap.size := by omega
  clear p0 r0 B0 sz0 bN
  go_wp2_with fail
  go_cut [8] from 22 (fun lv wc => ∃ L el gl, lv = .pointer (some ⟨L, 0, none⟩) ∧ w.heap.size + 2 ≤ L ∧ ObjAt L #[.int .i64 s.rev, .slice none 0 0, .slice none 0 0, .slice el s.leases.length gl] 30 wc ∧ RefS w.heap.size (.int .i64 s.rev) (.slice aj s.jobs.length cj) (.slice an s.nodes.length cn) (.slice al s.leases.length cl) w wc ∧ wc.ownsRow w.heap.size 48 3 (.slice el s.leases.length gl) s.leases.length (cLeases s.leases))
  case first =>
    go_region_held3 (fun x => (x.cell? ⟨w.heap.size, 0, none⟩ = some (.int .i64 s.rev) ∧ x.cell? ⟨w.heap.size, 3, none⟩ = some (.slice al s.leases.length cl)) ∧ RefS w.heap.size (.int .i64 s.rev) (.slice aj s.jobs.length cj) (.slice an s.nodes.length cn) (.slice al s.leases.length cl) w x)
      (first | with_reducible assumption | with_reducible exact s0 | with_reducible exact s1.1 | with_reducible exact t0 | with_reducible exact refS_all (refS_put s1.1.2 hb2 _ _ _ _) | exact refS_all (refS_next s1.1.2 (below_one _ _)) | exact refS_all (refS_next s0.2 (below_one _ _)))
      (first
        | (go_at_call 24; (with_reducible refine HCA.out.mono ?_); rintro e x1 ⟨el, gl, rfl, ol, c1⟩; have s1 := refS_copy c1 ol s0)
        | (go_at_call 24; (with_reducible refine HCB.out.mono ?_); rintro e x1 ⟨el, gl, rfl, ol, c1⟩; have s1 := refS_copy c1 ol t0; have oB := objAt_next OB.out c1; have m0 := objAt_cell oB 0 rfl; have m1 := objAt_cell oB 1 rfl; have m2 := objAt_cell oB 2 rfl; have m3 := objAt_cell oB 3 rfl; have f0 := objAt_free oB 0; have f1 := objAt_free oB 1; have f2 := objAt_free oB 2; have f3 := objAt_free oB 3))
    · rename_i hS
      have hz := objAt_lt s1.1.2.2.1
      go_wp2_with fail
      go_meet
      case rel => exact ⟨x1.heap.size, el, gl, rfl, (by omega), objAt_new x1 _ _, hS.2, own_next s1.2 (below_one _ _)⟩
    · rename_i hS
      have hz := SZ.out
      go_wp2_with fail
      go_meet
      case rel => exact ⟨W1.heap.size, el, gl, rfl, (by omega), obj_put4 (objAt_next OB.out c1) _ _ _ _, hS.2, own_put4 s1.2 (objAt_next OB.out c1) (by decide) _ _ _ _⟩
  case rest =>
    obtain ⟨L, el, gl, rfl, hL, oL, hS, ol⟩ := hcut
    obtain ⟨pH, rH, BH⟩ := hS
    have e0 := objAt_free oL 0
    have e1 := objAt_cell oL 0 rfl
    obtain ⟨V0, hV0⟩ : ∃ V0, wc.setCell ⟨L, 0, none⟩ (.int .i64 0) = V0 := ⟨_, rfl⟩
    have oL' : ObjAt L #[.int .i64 0, .slice none 0 0, .slice none 0 0, .slice el s.leases.length gl] 30 V0 := by rw [← hV0]; exact objAt_set oL 0 (.int .i64 0)
    have pH' : ObjAt w.heap.size #[.int .i64 s.rev, .slice aj s.jobs.length cj, .slice an s.nodes.length cn, .slice al s.leases.length cl] 30 V0 := by rw [← hV0]; exact objAt_other pH (by omega) 0 _
    have rH' : ObjAt (w.heap.size + 1) #[.int .i64 0, .slice none 0 0, .slice none 0 0, .slice none 0 0] 30 V0 := by rw [← hV0]; exact objAt_other rH (by omega) 0 _
    have BH' : Below w.heap.size w V0 := by rw [← hV0]; exact BH.setCell (p := ⟨L, 0, none⟩) (show w.heap.size ≤ L by omega) _
    have ol' := own_box ol oL (by decide) 0 (.int .i64 0)
    rw [hV0] at ol'
    clear oL pH rH BH ol
    have oL := oL'
    have pH := pH'
    have rH := rH'
    have BH := BH'
    have ol := ol'
    clear oL' pH' rH' BH' ol'
    have n1 := objAt_cell pH 1 rfl
    have P0 := Lib.hid (And.intro oL (And.intro pH (And.intro rH (And.intro ol BH))))
    clear oL pH rH ol BH
    go_wp2
    go_loopw [34] (fun iv wr => ∃ (i : Nat) (pv : Value), iv = .int .i64 (i : Int) ∧ i ≤ s.jobs.length ∧ ObjAt L #[.int .i64 0, pv, .slice none 0 0, .slice el s.leases.length gl] 30 wr ∧ ObjAt w.heap.size #[.int .i64 s.rev, .slice aj s.jobs.length cj, .slice an s.nodes.length cn, .slice al s.leases.length cl] 30 wr ∧ ObjAt (w.heap.size + 1) #[.int .i64 0, .slice none 0 0, .slice none 0 0, .slice none 0 0] 30 wr ∧ wr.ownsRow w.heap.size 50 5 pv i (cJobs ((s.jobs.take i).map (dnJ 1))) ∧ wr.ownsRow w.heap.size 48 3 (.slice el s.leases.length gl) s.leases.length (cLeases s.leases) ∧ Below w.heap.size w wr) (fun iv _ => s.jobs.length - (intOf iv).toNat)
    case atStart =>
      obtain ⟨oL, pH, rH, ol, BH⟩ := P0.out
      exact ⟨0, _, rfl, Nat.zero_le _, oL, pH, rH, World.ownsRow_nil _ _ _ _, ol, BH⟩
    case round =>
      clear P0 n1
      obtain ⟨i, pv, rfl, hi, oL, pH, rH, hown, ol, hbr⟩ := hrel
      have lL := objAt_lt oL
      by_cases h : (i : Int) < (s.jobs.length : Int)
      · have hil : i < s.jobs.length := by omega
        obtain ⟨a, rfl, hal, k0, k1, k2, k3, k4⟩ := jobsAt_next HM.out.1 hbr i hil
        obtain ⟨x, hxi⟩ : ∃ x, s.jobs[i] = x := ⟨_, rfl⟩
        rw [hxi] at k0 k1 k2 k3 k4
        have HMp := Lib.hid (map_take (dnJ 1) s.jobs i hil)
        rw [hxi] at HMp
        clear hxi
        have CV := below_one wr (.cells #[.string x.name, .int .i64 x.prio, .int .i64 x.need, .int .i64 0, .string ⟨#[]⟩] 50)
        have oK := objAt_new wr #[.string x.name, .int .i64 x.prio, .int .i64 x.need, .int .i64 0, .string ⟨#[]⟩] 50
        have hown2 := own_next hown CV
        have oL2 := objAt_next oL CV
        have pH2 := objAt_next pH CV
        have rH2 := objAt_next rH CV
        have ol2 := own_next ol CV
        have B2 := below_trans hbr CV hbr.size
        have s2 := B2.size
        have u1 := objAt_cell oL2 1 rfl
        have y0 := objAt_cell oK 0 rfl
        have y1 := objAt_cell oK 1 rfl
        have y2 := objAt_cell oK 2 rfl
        have y3 := objAt_cell oK 3 rfl
        have y4 := objAt_cell oK 4 rfl
        have Q2 := Lib.hid (And.intro oL2 (And.intro pH2 (And.intro rH2 (And.intro ol2 B2))))
        clear oL pH rH ol hown hbr oL2 pH2 rH2 ol2 B2 CV oK
        go_wp2_with (at_builtin; refine wpList_append_own _ rfl _ _ 26 rfl w.heap.size 50 i0 _ 5 56 Tryz.underlying26 Hi.out Hz0.out Hz1.out Hz2.out rfl (by decide) _ _ _ rfl (hown2.alloc _) ⟨wr.heap.size + 1, 0, none⟩ 1 1 (cJob (⟨x.name, x.prio, x.need, 0, ⟨#[]⟩⟩ : JobD)) rfl rfl ?c1 ?c2 ?c3 ?c4 ?c5 ?_)
        case c1 =>
          have z := job_new (wr.alloc (.cells #[.string x.name, .int .i64 x.prio, .int .i64 x.need, .int .i64 0, .string ⟨#[]⟩] 50)) (⟨x.name, x.prio, x.need, 0, ⟨#[]⟩⟩ : JobD) 50
          rw [World.size_alloc] at z
          exact z
        case c2 => exact job_ones (⟨x.name, x.prio, x.need, 0, ⟨#[]⟩⟩ : JobD)
        case c3 => unfold maxLen; omega
        case c4 => omega
        case c5 => simp; omega
        · intro v3 w3 own3 hg3 _
          obtain ⟨oL2, pH2, rH2, ol2, B2⟩ := Q2.out
          have bN := below_one (wr.alloc (.cells #[.string x.name, .int .i64 x.prio, .int .i64 x.need, .int .i64 0, .string ⟨#[]⟩] 50)) (.cells #[.string x.name, .int .i64 x.prio, .int .i64 x.need, .int .i64 0, .string ⟨#[]⟩] 50)
          have hb3 := (below_trans B2 bN B2.size).grown hg3 (by simp; omega) (fun k hk' => (hown2.lt k hk').1)
          have oL3 := objAt_row (objAt_next oL2 bN) (own_next hown2 bN) (by decide) hg3
          have pH3 := objAt_row (objAt_next pH2 bN) (own_next hown2 bN) (by decide) hg3
          have rH3 := objAt_row (objAt_next rH2 bN) (own_next hown2 bN) (by decide) hg3
          have ol3 := own_row (own_next ol2 bN) (own_next hown2 bN) (by decide) hg3
          obtain ⟨ad3, cap3, rfl⟩ := slice_of own3
          rw [← cJobs_one, ← cJobs_append] at own3
          have own4 : w3.ownsRow w.heap.size 50 5 (.slice ad3 (i + 1) cap3) (i + 1) (cJobs ((s.jobs.take (i + 1)).map (dnJ 1))) := by rw [HMp.out, show dnJ 1 x = (⟨x.name, x.prio, x.need, 0, ⟨#[]⟩⟩ : JobD) from rfl]; simpa using own3
          have e1 := objAt_free oL3 1
          have e2 := objAt_cell oL3 1 rfl
          have oL4 : ObjAt L #[.int .i64 0, .slice ad3 (i + 1) cap3, .slice none 0 0, .slice el s.leases.length gl] 30 _ := objAt_set oL3 1 (.slice ad3 (i + 1) cap3)
          have pH4 := objAt_other pH3 (c := L) (by omega) 1 (.slice ad3 (i + 1) cap3)
          have rH4 := objAt_other rH3 (c := L) (by omega) 1 (.slice ad3 (i + 1) cap3)
          have own5 := own_box own4 oL3 (by decide) 1 (.slice ad3 (i + 1) cap3)
          have ol4 := own_box ol3 oL3 (by decide) 1 (.slice ad3 (i + 1) cap3)
          have hb4 := hb3.setCell (p := ⟨L, 1, none⟩) (show w.heap.size ≤ L by omega) (.slice ad3 (i + 1) cap3)
          have Q4 := Lib.hid (And.intro oL4 (And.intro pH4 (And.intro rH4 (And.intro own5 (And.intro ol4 hb4)))))
          clear oL2 pH2 rH2 ol2 B2 bN hb3 oL3 pH3 rH3 ol3 own3 own4 hg3 hown2 oL4 pH4 rH4 own5 ol4 hb4 s2 u1 Q2
          go_wp2
          go_roundw
          case rel =>
            obtain ⟨oL4, pH4, rH4, own5, ol4, hb4⟩ := Q4.out
            exact ⟨i + 1, .slice ad3 (i + 1) cap3, by simp, by omega, oL4, pH4, rH4, own5, ol4, hb4⟩
          case measure => simp [intOf]; omega
      · obtain rfl : i = s.jobs.length := by omega
        rw [List.take_length] at hown
        have hlm : (s.jobs.map (dnJ 1)).length = s.jobs.length := List.length_map _
        have hown' := hown
        rw [← hlm] at hown'
        obtain ⟨ej, gj, rfl, _⟩ := own_jobs hown'
        rw [hlm] at hown oL
        clear hown' hlm
        have n2 := objAt_cell pH 2 rfl
        have P1 := Lib.hid (And.intro oL (And.intro pH (And.intro rH (And.intro hown (And.intro ol hbr)))))
        clear oL pH rH hown ol hbr lL
        go_wp2
        go_loopw [54] (fun iv wr => ∃ (i : Nat) (pv : Value), iv = .int .i64 (i : Int) ∧ i ≤ s.nodes.length ∧ ObjAt L #[.int .i64 0, .slice ej s.jobs.length gj, pv, .slice el s.leases.length gl] 30 wr ∧ ObjAt w.heap.size #[.int .i64 s.rev, .slice aj s.jobs.length cj, .slice an s.nodes.length cn, .slice al s.leases.length cl] 30 wr ∧ ObjAt (w.heap.size + 1) #[.int .i64 0, .slice none 0 0, .slice none 0 0, .slice none 0 0] 30 wr ∧ wr.ownsRow w.heap.size 52 3 pv i (cNodes ((s.nodes.take i).map (dnN 1))) ∧ wr.ownsRow w.heap.size 50 5 (.slice ej s.jobs.length gj) s.jobs.length (cJobs (s.jobs.map (dnJ 1))) ∧ wr.ownsRow w.heap.size 48 3 (.slice el s.leases.length gl) s.leases.length (cLeases s.leases) ∧ Below w.heap.size w wr) (fun iv _ => s.nodes.length - (intOf iv).toNat)
        case atStart =>
          obtain ⟨oL, pH, rH, oj, ol, BH⟩ := P1.out
          exact ⟨0, _, rfl, Nat.zero_le _, oL, pH, rH, World.ownsRow_nil _ _ _ _, oj, ol, BH⟩
        case round =>
          clear P1 n2
          obtain ⟨i, pv, rfl, hi, oL, pH, rH, hown, oj, ol, hbr⟩ := hrel
          have lL := objAt_lt oL
          by_cases h : (i : Int) < (s.nodes.length : Int)
          · have hil : i < s.nodes.length := by omega
            obtain ⟨a, rfl, hal, k0, k1, k2⟩ := nodesAt_next HM.out.2.1 hbr i hil
            obtain ⟨x, hxi⟩ : ∃ x, s.nodes[i] = x := ⟨_, rfl⟩
            rw [hxi] at k0 k1 k2
            have HMp := Lib.hid (map_take (dnN 1) s.nodes i hil)
            rw [hxi] at HMp
            clear hxi
            have bA0 := below_one wr (.cells #[.string x.name, .int .i64 x.room, .string x.zone] 52)
            have oA0 := objAt_new wr #[.string x.name, .int .i64 x.room, .string x.zone] 52
            have gA0 := objAt_free oA0 2
            have hA0 := objAt_cell oA0 2 rfl
            have oA1 : ObjAt wr.heap.size #[.string x.name, .int .i64 x.room, .string ⟨#[]⟩] 52 ((wr.alloc (.cells #[.string x.name, .int .i64 x.room, .string x.zone] 52)).setCell ⟨wr.heap.size, 2, none⟩ (.string ⟨#[]⟩)) := objAt_set oA0 2 (.string ⟨#[]⟩)
            have bA1 := bA0.setCell (p := ⟨wr.heap.size, 2, none⟩) (Nat.le_refl _) (.string ⟨#[]⟩)
            obtain ⟨V, hV⟩ : ∃ V, (wr.alloc (.cells #[.string x.name, .int .i64 x.room, .string x.zone] 52)).setCell ⟨wr.heap.size, 2, none⟩ (.string ⟨#[]⟩) = V := ⟨_, rfl⟩
            rw [hV] at bA1 oA1
            have CV := bA1
            have oK := oA1
            clear bA0 oA0 bA1 oA1
            have hown2 := own_next hown CV
            have oL2 := objAt_next oL CV
            have pH2 := objAt_next pH CV
            have rH2 := objAt_next rH CV
            have ol2 := own_next ol CV
            have oj2 := own_next oj CV
            have B2 := below_trans hbr CV hbr.size
            have s2 := B2.size
            have u1 := objAt_cell oL2 2 rfl
            have y0 := objAt_cell oK 0 rfl
            have y1 := objAt_cell oK 1 rfl
            have y2 := objAt_cell oK 2 rfl
            have Q2 := Lib.hid (And.intro oL2 (And.intro pH2 (And.intro rH2 (And.intro ol2 B2))))
            clear oL pH rH ol hown hbr oL2 pH2 rH2 ol2 B2 CV oK oj
            go_wp2_with (at_builtin; refine wpList_append_own _ rfl _ _ 27 rfl w.heap.size 52 i1 _ 3 40 Tryz.underlying27 Ni.out Nz0.out Nz1.out Nz2.out rfl (by decide) _ _ _ rfl (hown2.alloc _) ⟨V.heap.size, 0, none⟩ 1 1 (cNode (⟨x.name, x.room, ⟨#[]⟩⟩ : NodeD)) rfl rfl ?c1 ?c2 ?c3 ?c4 ?c5 ?_)
            case c1 => exact node_new V (⟨x.name, x.room, ⟨#[]⟩⟩ : NodeD) _
            case c2 => exact node_ones (⟨x.name, x.room, ⟨#[]⟩⟩ : NodeD)
            case c3 => unfold maxLen; omega
            case c4 => omega
            case c5 => simp; omega
            · intro v3 w3 own3 hg3 _
              obtain ⟨oL2, pH2, rH2, ol2, B2⟩ := Q2.out
              have bN := below_one V (.cells #[.string x.name, .int .i64 x.room, .string ⟨#[]⟩] 52)
              have hb3 := (below_trans B2 bN B2.size).grown hg3 (by simp; omega) (fun k hk' => (hown2.lt k hk').1)
              have oL3 := objAt_row (objAt_next oL2 bN) (own_next hown2 bN) (by decide) hg3
              have pH3 := objAt_row (objAt_next pH2 bN) (own_next hown2 bN) (by decide) hg3
              have rH3 := objAt_row (objAt_next rH2 bN) (own_next hown2 bN) (by decide) hg3
              have ol3 := own_row (own_next ol2 bN) (own_next hown2 bN) (by decide) hg3
              have oj3 := own_row (own_next oj2 bN) (own_next hown2 bN) (by decide) hg3
              obtain ⟨ad3, cap3, rfl⟩ := slice_of own3
              rw [← cNodes_one, ← cNodes_append] at own3
              have own4 : w3.ownsRow w.heap.size 52 3 (.slice ad3 (i + 1) cap3) (i + 1) (cNodes ((s.nodes.take (i + 1)).map (dnN 1))) := by rw [HMp.out, show dnN 1 x = (⟨x.name, x.room, ⟨#[]⟩⟩ : NodeD) from rfl]; simpa using own3
              have e1 := objAt_free oL3 2
              have e2 := objAt_cell oL3 2 rfl
              have oL4 : ObjAt L #[.int .i64 0, .slice ej s.jobs.length gj, .slice ad3 (i + 1) cap3, .slice el s.leases.length gl] 30 _ := objAt_set oL3 2 (.slice ad3 (i + 1) cap3)
              have pH4 := objAt_other pH3 (c := L) (by omega) 2 (.slice ad3 (i + 1) cap3)
              have rH4 := objAt_other rH3 (c := L) (by omega) 2 (.slice ad3 (i + 1) cap3)
              have own5 := own_box own4 oL3 (by decide) 2 (.slice ad3 (i + 1) cap3)
              have ol4 := own_box ol3 oL3 (by decide) 2 (.slice ad3 (i + 1) cap3)
              have hb4 := hb3.setCell (p := ⟨L, 2, none⟩) (show w.heap.size ≤ L by omega) (.slice ad3 (i + 1) cap3)
              have oj4 := own_box oj3 oL3 (by decide) 2 (.slice ad3 (i + 1) cap3)
              have Q4 := Lib.hid (And.intro oL4 (And.intro pH4 (And.intro rH4 (And.intro own5 (And.intro ol4 hb4)))))
              have J4 := Lib.hid oj4
              clear oL2 pH2 rH2 ol2 B2 bN hb3 oL3 pH3 rH3 ol3 own3 own4 hg3 hown2 oL4 pH4 rH4 own5 ol4 hb4 s2 u1 Q2 oj2 oj3 oj4
              go_wp2
              go_roundw
              case rel =>
                obtain ⟨oL4, pH4, rH4, own5, ol4, hb4⟩ := Q4.out
                exact ⟨i + 1, .slice ad3 (i + 1) cap3, by simp, by omega, oL4, pH4, rH4, own5, J4.out, ol4, hb4⟩
              case measure => simp [intOf]; omega
          · obtain rfl : i = s.nodes.length := by omega
            rw [List.take_length] at hown
            have hlm : (s.nodes.map (dnN 1)).length = s.nodes.length := List.length_map _
            have hown' := hown
            rw [← hlm] at hown'
            obtain ⟨en, gn, rfl, _⟩ := own_nodes hown'
            rw [hlm] at hown oL
            clear hown' hlm
            have D0 := downS_drew (⟨pH, oL, oL, ⟨_, _, _, _, rH⟩, hbr, Nat.le_refl _, by omega, by omega⟩ : DownS w.heap.size L L _ _ _ _ _ _ _ _ _ _ _ _ w wr)
            have s0' := downS_all D0
            have dr : Below wr.heap.size wr wr.drew := (Below.refl _ _).drew
            have qj := own_next oj dr
            have qn := own_next hown dr
            have ql := own_next ol dr
            have HU1 := Lib.hid (HUp.out ej en el gj gn gl wr.drew (ownJobs (xs := s.jobs.map (dnJ 1)) qj (by simp)) (ownNodes (xs := s.nodes.map (dnN 1)) qn (by simp)) (ownLeases ql rfl))
            have BD := Lib.hid hbr.drew
            have HSM := Lib.hid (fun (aj' an' al' : Option Addr) (cj' cn' cl' B : Nat) (x : World) (ow : OwnS B aj' an' al' cj' cn' cl' U x) (hb : Below w.heap.size w x) => same_is U s aj' an' al' aj an al cj' cn' cl' cj cn cl HZU.out x (ownS_at ow).1 (ownS_at ow).2.1 (ownS_at ow).2.2 (jobsAt_next HM.out.1 hb) (nodesAt_next HM.out.2.1 hb) (leasesAt_next HM.out.2.2 hb))
            have OW := Lib.hid (And.intro qj (And.intro qn ql))
            clear D0 dr qj qn ql oL pH rH hown oj ol hbr lL
            go_wp2_with fail
            go_region_held3 (fun x => ((x.cell? ⟨w.heap.size, 0, none⟩ = some (.int .i64 s.rev) ∧ x.cell? ⟨w.heap.size, 1, none⟩ = some (.slice aj s.jobs.length cj) ∧ x.cell? ⟨w.heap.size, 2, none⟩ = some (.slice an s.nodes.length cn) ∧ x.cell? ⟨w.heap.size, 3, none⟩ = some (.slice al s.leases.length cl)) ∧ (x.cell? ⟨L, 0, none⟩ = some (.int .i64 0) ∧ x.cell? ⟨L, 1, none⟩ = some (.slice ej s.jobs.length gj) ∧ x.cell? ⟨L, 2, none⟩ = some (.slice en s.nodes.length gn) ∧ x.cell? ⟨L, 3, none⟩ = some (.slice el s.leases.length gl)) ∧ (x.cell? ⟨L, 0, none⟩ = some (.int .i64 0) ∧ x.cell? ⟨L, 1, none⟩ = some (.slice ej s.jobs.length gj) ∧ x.cell? ⟨L, 2, none⟩ = some (.slice en s.nodes.length gn) ∧ x.cell? ⟨L, 3, none⟩ = some (.slice el s.leases.length gl)) ∧ (x.frozen? ⟨w.heap.size + 1, 0, none⟩ = false ∧ x.frozen? ⟨w.heap.size + 1, 1, none⟩ = false ∧ x.frozen? ⟨w.heap.size + 1, 2, none⟩ = false ∧ x.frozen? ⟨w.heap.size + 1, 3, none⟩ = false)) ∧ DownS w.heap.size L L (.int .i64 s.rev) (.slice aj s.jobs.length cj) (.slice an s.nodes.length cn) (.slice al s.leases.length cl) (.int .i64 0) (.slice ej s.jobs.length gj) (.slice en s.nodes.length gn) (.slice el s.leases.length gl) (.int .i64 0) (.slice ej s.jobs.length gj) (.slice en s.nodes.length gn) (.slice el s.leases.length gl) w x)
              (first | with_reducible assumption | with_reducible exact s0' | with_reducible exact downS_all (downS_put s2.2 _ _ _ _))
              (first
                | (go_at_call 17; (with_reducible refine HU1.out.mono ?_); rintro e x1 ⟨bj, bn, bl, dj, dn, dl, rfl, owU, c1⟩; have s1 := downS_all (downS_call s0'.2 c1); have bx1 := s1.2.2.2.2.2.1)
                | (go_at_call 9; (with_reducible refine (HSM.out _ _ _ _ _ _ _ _ owU bx1).mono ?_); rintro e x2 ⟨c, rfl, hcc, c2⟩; have s2 := downS_all (downS_call s1.2 c2); obtain ⟨_, _, _, ⟨a0, a1, a2, a3, rr⟩, _⟩ := And.right s2; have m0 := objAt_cell rr 0 rfl; have m1 := objAt_cell rr 1 rfl; have m2 := objAt_cell rr 2 rfl; have m3 := objAt_cell rr 3 rfl))
            all_goals
              have oF := obj_put4 rr (.int .i64 0) (.slice ej s.jobs.length gj) (.slice en s.nodes.length gn) (.slice el s.leases.length gl)
              have BF := Lib.hid (below_put4 s2.2.2.2.2.2.1 (b := w.heap.size + 1) (by omega) (.int .i64 0) (.slice ej s.jobs.length gj) (.slice en s.nodes.length gn) (.slice el s.leases.length gl))
              have Z1 := Lib.hid (own_put4 (own_next (own_next OW.out.1 c1) c2) rr (by decide) (.int .i64 0) (.slice ej s.jobs.length gj) (.slice en s.nodes.length gn) (.slice el s.leases.length gl))
              have Z2 := Lib.hid (own_put4 (own_next (own_next OW.out.2.1 c1) c2) rr (by decide) (.int .i64 0) (.slice ej s.jobs.length gj) (.slice en s.nodes.length gn) (.slice el s.leases.length gl))
              have Z3 := Lib.hid (own_put4 (own_next (own_next OW.out.2.2 c1) c2) rr (by decide) (.int .i64 0) (.slice ej s.jobs.length gj) (.slice en s.nodes.length gn) (.slice el s.leases.length gl))
              have t0 := objAt_cell oF 0 rfl
              have t1 := objAt_cell oF 1 rfl
              have t2 := objAt_cell oF 2 rfl
              have t3 := objAt_cell oF 3 rfl
              have TT := Lib.hid (And.intro t0 (And.intro t1 (And.intro t2 t3)))
              have HCC := Lib.hid hcc
              clear oF t0 t1 t2 t3 hcc
              go_wp2
              obtain ⟨t0, t1, t2, t3⟩ := TT.out
              exact bodyPost_ret (v := .tuple #[.agg #[.int .i64 0, .slice ej s.jobs.length gj, .slice en s.nodes.length gn, .slice el s.leases.length gl], .bool c, .int .i64 0]) (by simp [results, Tryz.results8, go_sem, t0, t1, t2, t3]) rfl ⟨_, _, _, _, _, _, c, rfl, HCC.out, Z1.out, Z2.out, Z3.out, BF.out⟩
set_option maxRecDepth 100000 in
set_option maxHeartbeats 4000000 in
theorem rdown_2 (s : StD) (aj an al : Option Addr) (cj cn cl : Nat) (hck : checkE V8 s = 0) (w : World) (hmj : JobsAt w aj s.jobs) (hmn : NodesAt w an s.nodes) (hml : LeasesAt w al s.leases) :
    Calls Tryz.prog 8 #[.agg #[.int .i64 s.rev, .slice aj s.jobs.length cj, .slice an s.nodes.length cn, .slice al s.leases.length cl], .int .i64 2] w fun e w' => ∃ (aj' : Option Addr) (cj' : Nat) (an' : Option Addr) (cn' : Nat) (al' : Option Addr) (cl' : Nat) (c : Bool), e = .returned (.tuple #[.agg #[.int .i64 0, .slice aj' s.jobs.length cj', .slice an' s.nodes.length cn', .slice al' s.leases.length cl'], .bool c, .int .i64 0]) ∧ (c = true ↔ upS 2 3 (dnS 2 s) = s) ∧ w'.ownsRow w.heap.size 50 5 (.slice aj' s.jobs.length cj') s.jobs.length (cJobs (s.jobs.map (dnJ 2))) ∧ w'.ownsRow w.heap.size 52 3 (.slice an' s.nodes.length cn') s.nodes.length (cNodes (s.nodes.map (dnN 2))) ∧ w'.ownsRow w.heap.size 48 3 (.slice al' s.leases.length cl') s.leases.length (cLeases s.leases) ∧ Below w.heap.size w w' := by
  obtain ⟨hl, _⟩ := small_valid hck
  have HZs := Lib.hid (size3_valid hck)
  have HRc := rcheck_any s.rev aj an al cj cn cl s.jobs s.nodes s.leases
  rw [show (⟨s.rev, s.jobs, s.nodes, s.leases⟩ : StD) = s from rfl, hck] at HRc
  have HRc := Lib.hid HRc
  have HO := Lib.hid (fun w => outside_is 2 1 3 w)
  have hin : inR 2 1 3 = true := by decide
  rw [hin] at HO
  clear hin
  obtain ⟨U, hU⟩ : ∃ U, upS 2 3 (dnS 2 s) = U := ⟨_, rfl⟩
  rw [hU]
  have HUp := fun ej en el gj gn gl W hj hn hle => rup_any (dnS 2 s) ej en el gj gn gl 2 3 (by omega) (by have e := dn_lens 2 s; rw [e.1, e.2.1, e.2.2]; exact hl) W hj hn hle
  have eD := dn_lens 2 s
  rw [hU, eD.1, eD.2.1, eD.2.2] at HUp
  have eR : (dnS 2 s).rev = 0 := rfl
  rw [eR] at HUp
  have HUp := Lib.hid HUp
  have HZU := Lib.hid (show U.jobs.length ≤ 140737488355328 ∧ U.nodes.length ≤ 140737488355328 ∧ U.leases.length ≤ 140737488355328 by
    have e := up_lens 2 3 (dnS 2 s)
    rw [hU] at e
    rw [e.1, e.2.1, e.2.2, eD.1, eD.2.1, eD.2.2]
    have := HZs.out
    omega)
  clear hU eD eR
  obtain ⟨W0, hW0⟩ : ∃ W0, (w.alloc (.cells #[.int .i64 s.rev, .slice aj s.jobs.length cj, .slice an s.nodes.length cn, .slice al s.leases.length cl] 30)).alloc (.cells #[.int .i64 0, .slice none 0 0, .slice none 0 0, .slice none 0 0] 30) = W0 := ⟨_, rfl⟩
  obtain ⟨p0, r0, B0, sz0⟩ := two_new w _ _ _ _ _ W0 hW0
  obtain ⟨i0, qi, qz0, qz1, qz2⟩ := info_parts' Tryz.info_job
  have Hi := Lib.hid qi
  have Hz0 := Lib.hid qz0
  have Hz1 := Lib.hid qz1
  have Hz2 := Lib.hid qz2
  obtain ⟨i1, qi', qz0', qz1', qz2'⟩ := info_parts' Tryz.info_node
  have Ni := Lib.hid qi'
  have Nz0 := Lib.hid qz0'
  have Nz1 := Lib.hid qz1'
  have Nz2 := Lib.hid qz2'
  clear qi qz0 qz1 qz2 qi' qz0' qz1' qz2'
  have HM := Lib.hid (And.intro hmj (And.intro hmn hml))
  obtain ⟨hl1, hl2, hl3⟩ := hl
  have HRc0 := Lib.hid (HRc.out W0 (jobsAt_next hmj B0) (nodesAt_next hmn B0) (leasesAt_next hml B0))
  have h0 := objAt_cell p0 0 rfl
  have h1 := objAt_cell p0 1 rfl
  have h2 := objAt_cell p0 2 rfl
  have h3 := objAt_cell p0 3 rfl
  have P00 := Lib.hid (And.intro p0 (And.intro r0 (And.intro B0 sz0)))
  clear hmj hmn hml p0 r0 B0 sz0 hck HRc
  go_enter Tryz.func8, Tryz.ntmps8
  go_wp2_with fail
  refine HRc0.out.mono ?_
  rintro e W1 ⟨rfl, b1⟩
  clear h0 h1 h2 h3 HRc0
  go_wp2_with fail
  refine (HO.out _).mono ?_
  rintro e w' ⟨rfl, rfl⟩
  obtain ⟨p00, r00, B00, sz00⟩ := P00.out
  have p0 := objAt_next p00 b1
  have r0 := objAt_next r00 b1
  have B0 := below_trans B00 b1 B00.size
  have sz0 : w.heap.size + 2 ≤ W1.heap.size := by have := b1.size; omega
  clear p00 r00 B00 sz00 b1 P00
  have bN := below_one W1 (.cells #[.int .i64 0, .slice none 0 0, .slice none 0 0, .slice none 0 0] 30)
  have HCA := Lib.hid (copy_lease s.leases al cl hl3 W1.drew (leasesAt_next HM.out.2.2 B0.drew))
  have HCB := Lib.hid (copy_lease s.leases al cl hl3 (W1.alloc (.cells #[.int .i64 0, .slice none 0 0, .slice none 0 0, .slice none 0 0] 30)).drew (leasesAt_next HM.out.2.2 (below_trans B0 bN B0.size).drew))
  have OB := Lib.hid (objAt_drew (objAt_new W1 #[.int .i64 0, .slice none 0 0, .slice none 0 0, .slice none 0 0] 30))
  have t0 := refS_all (w := (W1.alloc (.cells #[.int .i64 0, .slice none 0 0, .slice none 0 0, .slice none 0 0] 30)).drew) (⟨objAt_drew (objAt_next p0 bN), objAt_drew (objAt_next r0 bN), (below_trans B0 bN B0.size).drew⟩ : RefS w.heap.size _ _ _ _ w _)
  have s0 := refS_all (w := W1.drew) (⟨objAt_drew p0, objAt_drew r0, B0.drew⟩ : RefS w.heap.size _ _ _ _ w W1.drew)
  have SZ := Lib.hid sz0
  have hb2 : w.heap.size + 1 < W1.heap.size := by omega
  clear p0 r0 B0 sz0 bN
  go_wp2_with fail
  go_cut [8] from 22 (fun lv wc => ∃ L el gl, lv = .pointer (some ⟨L, 0, none⟩) ∧ w.heap.size + 2 ≤ L ∧ ObjAt L #[.int .i64 s.rev, .slice none 0 0, .slice none 0 0, .slice el s.leases.length gl] 30 wc ∧ RefS w.heap.size (.int .i64 s.rev) (.slice aj s.jobs.length cj) (.slice an s.nodes.length cn) (.slice al s.leases.length cl) w wc ∧ wc.ownsRow w.heap.size 48 3 (.slice el s.leases.length gl) s.leases.length (cLeases s.leases))
  case first =>
    go_region_held3 (fun x => (x.cell? ⟨w.heap.size, 0, none⟩ = some (.int .i64 s.rev) ∧ x.cell? ⟨w.heap.size, 3, none⟩ = some (.slice al s.leases.length cl)) ∧ RefS w.heap.size (.int .i64 s.rev) (.slice aj s.jobs.length cj) (.slice an s.nodes.length cn) (.slice al s.leases.length cl) w x)
      (first | with_reducible assumption | with_reducible exact s0 | with_reducible exact s1.1 | with_reducible exact t0 | with_reducible exact refS_all (refS_put s1.1.2 hb2 _ _ _ _) | exact refS_all (refS_next s1.1.2 (below_one _ _)) | exact refS_all (refS_next s0.2 (below_one _ _)))
      (first
        | (go_at_call 24; (with_reducible refine HCA.out.mono ?_); rintro e x1 ⟨el, gl, rfl, ol, c1⟩; have s1 := refS_copy c1 ol s0)
        | (go_at_call 24; (with_reducible refine HCB.out.mono ?_); rintro e x1 ⟨el, gl, rfl, ol, c1⟩; have s1 := refS_copy c1 ol t0; have oB := objAt_next OB.out c1; have m0 := objAt_cell oB 0 rfl; have m1 := objAt_cell oB 1 rfl; have m2 := objAt_cell oB 2 rfl; have m3 := objAt_cell oB 3 rfl; have f0 := objAt_free oB 0; have f1 := objAt_free oB 1; have f2 := objAt_free oB 2; have f3 := objAt_free oB 3))
    · rename_i hS
      have hz := objAt_lt s1.1.2.2.1
      go_wp2_with fail
      go_meet
      case rel => exact ⟨x1.heap.size, el, gl, rfl, (by omega), objAt_new x1 _ _, hS.2, own_next s1.2 (below_one _ _)⟩
    · rename_i hS
      have hz := SZ.out
      go_wp2_with fail
      go_meet
      case rel => exact ⟨W1.heap.size, el, gl, rfl, (by omega), obj_put4 (objAt_next OB.out c1) _ _ _ _, hS.2, own_put4 s1.2 (objAt_next OB.out c1) (by decide) _ _ _ _⟩
  case rest =>
    obtain ⟨L, el, gl, rfl, hL, oL, hS, ol⟩ := hcut
    obtain ⟨pH, rH, BH⟩ := hS
    have e0 := objAt_free oL 0
    have e1 := objAt_cell oL 0 rfl
    obtain ⟨V0, hV0⟩ : ∃ V0, wc.setCell ⟨L, 0, none⟩ (.int .i64 0) = V0 := ⟨_, rfl⟩
    have oL' : ObjAt L #[.int .i64 0, .slice none 0 0, .slice none 0 0, .slice el s.leases.length gl] 30 V0 := by rw [← hV0]; exact objAt_set oL 0 (.int .i64 0)
    have pH' : ObjAt w.heap.size #[.int .i64 s.rev, .slice aj s.jobs.length cj, .slice an s.nodes.length cn, .slice al s.leases.length cl] 30 V0 := by rw [← hV0]; exact objAt_other pH (by omega) 0 _
    have rH' : ObjAt (w.heap.size + 1) #[.int .i64 0, .slice none 0 0, .slice none 0 0, .slice none 0 0] 30 V0 := by rw [← hV0]; exact objAt_other rH (by omega) 0 _
    have BH' : Below w.heap.size w V0 := by rw [← hV0]; exact BH.setCell (p := ⟨L, 0, none⟩) (show w.heap.size ≤ L by omega) _
    have ol' := own_box ol oL (by decide) 0 (.int .i64 0)
    rw [hV0] at ol'
    clear oL pH rH BH ol
    have oL := oL'
    have pH := pH'
    have rH := rH'
    have BH := BH'
    have ol := ol'
    clear oL' pH' rH' BH' ol'
    have n1 := objAt_cell pH 1 rfl
    have P0 := Lib.hid (And.intro oL (And.intro pH (And.intro rH (And.intro ol BH))))
    clear oL pH rH ol BH
    go_wp2
    go_loopw [34] (fun iv wr => ∃ (i : Nat) (pv : Value), iv = .int .i64 (i : Int) ∧ i ≤ s.jobs.length ∧ ObjAt L #[.int .i64 0, pv, .slice none 0 0, .slice el s.leases.length gl] 30 wr ∧ ObjAt w.heap.size #[.int .i64 s.rev, .slice aj s.jobs.length cj, .slice an s.nodes.length cn, .slice al s.leases.length cl] 30 wr ∧ ObjAt (w.heap.size + 1) #[.int .i64 0, .slice none 0 0, .slice none 0 0, .slice none 0 0] 30 wr ∧ wr.ownsRow w.heap.size 50 5 pv i (cJobs ((s.jobs.take i).map (dnJ 2))) ∧ wr.ownsRow w.heap.size 48 3 (.slice el s.leases.length gl) s.leases.length (cLeases s.leases) ∧ Below w.heap.size w wr) (fun iv _ => s.jobs.length - (intOf iv).toNat)
    case atStart =>
      obtain ⟨oL, pH, rH, ol, BH⟩ := P0.out
      exact ⟨0, _, rfl, Nat.zero_le _, oL, pH, rH, World.ownsRow_nil _ _ _ _, ol, BH⟩
    case round =>
      clear P0 n1
      obtain ⟨i, pv, rfl, hi, oL, pH, rH, hown, ol, hbr⟩ := hrel
      have lL := objAt_lt oL
      by_cases h : (i : Int) < (s.jobs.length : Int)
      · have hil : i < s.jobs.length := by omega
        obtain ⟨a, rfl, hal, k0, k1, k2, k3, k4⟩ := jobsAt_next HM.out.1 hbr i hil
        obtain ⟨x, hxi⟩ : ∃ x, s.jobs[i] = x := ⟨_, rfl⟩
        rw [hxi] at k0 k1 k2 k3 k4
        have HMp := Lib.hid (map_take (dnJ 2) s.jobs i hil)
        rw [hxi] at HMp
        clear hxi
        have bA0 := below_one wr (.cells #[.string x.name, .int .i64 x.prio, .int .i64 x.need, .int .i64 x.tries, .string x.tag] 50)
        have oA0 := objAt_new wr #[.string x.name, .int .i64 x.prio, .int .i64 x.need, .int .i64 x.tries, .string x.tag] 50
        have gA0 := objAt_free oA0 4
        have hA0 := objAt_cell oA0 4 rfl
        have oA1 : ObjAt wr.heap.size #[.string x.name, .int .i64 x.prio, .int .i64 x.need, .int .i64 x.tries, .string ⟨#[]⟩] 50 ((wr.alloc (.cells #[.string x.name, .int .i64 x.prio, .int .i64 x.need, .int .i64 x.tries, .string x.tag] 50)).setCell ⟨wr.heap.size, 4, none⟩ (.string ⟨#[]⟩)) := objAt_set oA0 4 (.string ⟨#[]⟩)
        have bA1 := bA0.setCell (p := ⟨wr.heap.size, 4, none⟩) (Nat.le_refl _) (.string ⟨#[]⟩)
        obtain ⟨V, hV⟩ : ∃ V, (wr.alloc (.cells #[.string x.name, .int .i64 x.prio, .int .i64 x.need, .int .i64 x.tries, .string x.tag] 50)).setCell ⟨wr.heap.size, 4, none⟩ (.string ⟨#[]⟩) = V := ⟨_, rfl⟩
        rw [hV] at bA1 oA1
        have CV := bA1
        have oK := oA1
        clear bA0 oA0 bA1 oA1
        have hown2 := own_next hown CV
        have oL2 := objAt_next oL CV
        have pH2 := objAt_next pH CV
        have rH2 := objAt_next rH CV
        have ol2 := own_next ol CV
        have B2 := below_trans hbr CV hbr.size
        have s2 := B2.size
        have u1 := objAt_cell oL2 1 rfl
        have y0 := objAt_cell oK 0 rfl
        have y1 := objAt_cell oK 1 rfl
        have y2 := objAt_cell oK 2 rfl
        have y3 := objAt_cell oK 3 rfl
        have y4 := objAt_cell oK 4 rfl
        have Q2 := Lib.hid (And.intro oL2 (And.intro pH2 (And.intro rH2 (And.intro ol2 B2))))
        clear oL pH rH ol hown hbr oL2 pH2 rH2 ol2 B2 CV oK
        go_wp2_with (at_builtin; refine wpList_append_own _ rfl _ _ 26 rfl w.heap.size 50 i0 _ 5 56 Tryz.underlying26 Hi.out Hz0.out Hz1.out Hz2.out rfl (by decide) _ _ _ rfl (hown2.alloc _) ⟨V.heap.size, 0, none⟩ 1 1 (cJob (⟨x.name, x.prio, x.need, x.tries, ⟨#[]⟩⟩ : JobD)) rfl rfl ?c1 ?c2 ?c3 ?c4 ?c5 ?_)
        case c1 => exact job_new V (⟨x.name, x.prio, x.need, x.tries, ⟨#[]⟩⟩ : JobD) _
        case c2 => exact job_ones (⟨x.name, x.prio, x.need, x.tries, ⟨#[]⟩⟩ : JobD)
        case c3 => unfold maxLen; omega
        case c4 => omega
        case c5 => simp; omega
        · intro v3 w3 own3 hg3 _
          obtain ⟨oL2, pH2, rH2, ol2, B2⟩ := Q2.out
          have bN := below_one V (.cells #[.string x.name, .int .i64 x.prio, .int .i64 x.need, .int .i64 x.tries, .string ⟨#[]⟩] 50)
          have hb3 := (below_trans B2 bN B2.size).grown hg3 (by simp; omega) (fun k hk' => (hown2.lt k hk').1)
          have oL3 := objAt_row (objAt_next oL2 bN) (own_next hown2 bN) (by decide) hg3
          have pH3 := objAt_row (objAt_next pH2 bN) (own_next hown2 bN) (by decide) hg3
          have rH3 := objAt_row (objAt_next rH2 bN) (own_next hown2 bN) (by decide) hg3
          have ol3 := own_row (own_next ol2 bN) (own_next hown2 bN) (by decide) hg3
          obtain ⟨ad3, cap3, rfl⟩ := slice_of own3
          rw [← cJobs_one, ← cJobs_append] at own3
          have own4 : w3.ownsRow w.heap.size 50 5 (.slice ad3 (i + 1) cap3) (i + 1) (cJobs ((s.jobs.take (i + 1)).map (dnJ 2))) := by rw [HMp.out, show dnJ 2 x = (⟨x.name, x.prio, x.need, x.tries, ⟨#[]⟩⟩ : JobD) from rfl]; simpa using own3
          have e1 := objAt_free oL3 1
          have e2 := objAt_cell oL3 1 rfl
          have oL4 : ObjAt L #[.int .i64 0, .slice ad3 (i + 1) cap3, .slice none 0 0, .slice el s.leases.length gl] 30 _ := objAt_set oL3 1 (.slice ad3 (i + 1) cap3)
          have pH4 := objAt_other pH3 (c := L) (by omega) 1 (.slice ad3 (i + 1) cap3)
          have rH4 := objAt_other rH3 (c := L) (by omega) 1 (.slice ad3 (i + 1) cap3)
          have own5 := own_box own4 oL3 (by decide) 1 (.slice ad3 (i + 1) cap3)
          have ol4 := own_box ol3 oL3 (by decide) 1 (.slice ad3 (i + 1) cap3)
          have hb4 := hb3.setCell (p := ⟨L, 1, none⟩) (show w.heap.size ≤ L by omega) (.slice ad3 (i + 1) cap3)
          have Q4 := Lib.hid (And.intro oL4 (And.intro pH4 (And.intro rH4 (And.intro own5 (And.intro ol4 hb4)))))
          clear oL2 pH2 rH2 ol2 B2 bN hb3 oL3 pH3 rH3 ol3 own3 own4 hg3 hown2 oL4 pH4 rH4 own5 ol4 hb4 s2 u1 Q2
          go_wp2
          go_roundw
          case rel =>
            obtain ⟨oL4, pH4, rH4, own5, ol4, hb4⟩ := Q4.out
            exact ⟨i + 1, .slice ad3 (i + 1) cap3, by simp, by omega, oL4, pH4, rH4, own5, ol4, hb4⟩
          case measure => simp [intOf]; omega
      · obtain rfl : i = s.jobs.length := by omega
        rw [List.take_length] at hown
        have hlm : (s.jobs.map (dnJ 2)).length = s.jobs.length := List.length_map _
        have hown' := hown
        rw [← hlm] at hown'
        obtain ⟨ej, gj, rfl, _⟩ := own_jobs hown'
        rw [hlm] at hown oL
        clear hown' hlm
        have n2 := objAt_cell pH 2 rfl
        have P1 := Lib.hid (And.intro oL (And.intro pH (And.intro rH (And.intro hown (And.intro ol hbr)))))
        clear oL pH rH hown ol hbr lL
        go_wp2
        go_loopw [54] (fun iv wr => ∃ (i : Nat) (pv : Value), iv = .int .i64 (i : Int) ∧ i ≤ s.nodes.length ∧ ObjAt L #[.int .i64 0, .slice ej s.jobs.length gj, pv, .slice el s.leases.length gl] 30 wr ∧ ObjAt w.heap.size #[.int .i64 s.rev, .slice aj s.jobs.length cj, .slice an s.nodes.length cn, .slice al s.leases.length cl] 30 wr ∧ ObjAt (w.heap.size + 1) #[.int .i64 0, .slice none 0 0, .slice none 0 0, .slice none 0 0] 30 wr ∧ wr.ownsRow w.heap.size 52 3 pv i (cNodes ((s.nodes.take i).map (dnN 2))) ∧ wr.ownsRow w.heap.size 50 5 (.slice ej s.jobs.length gj) s.jobs.length (cJobs (s.jobs.map (dnJ 2))) ∧ wr.ownsRow w.heap.size 48 3 (.slice el s.leases.length gl) s.leases.length (cLeases s.leases) ∧ Below w.heap.size w wr) (fun iv _ => s.nodes.length - (intOf iv).toNat)
        case atStart =>
          obtain ⟨oL, pH, rH, oj, ol, BH⟩ := P1.out
          exact ⟨0, _, rfl, Nat.zero_le _, oL, pH, rH, World.ownsRow_nil _ _ _ _, oj, ol, BH⟩
        case round =>
          clear P1 n2
          obtain ⟨i, pv, rfl, hi, oL, pH, rH, hown, oj, ol, hbr⟩ := hrel
          have lL := objAt_lt oL
          by_cases h : (i : Int) < (s.nodes.length : Int)
          · have hil : i < s.nodes.length := by omega
            obtain ⟨a, rfl, hal, k0, k1, k2⟩ := nodesAt_next HM.out.2.1 hbr i hil
            obtain ⟨x, hxi⟩ : ∃ x, s.nodes[i] = x := ⟨_, rfl⟩
            rw [hxi] at k0 k1 k2
            have HMp := Lib.hid (map_take (dnN 2) s.nodes i hil)
            rw [hxi] at HMp
            clear hxi
            have bA0 := below_one wr (.cells #[.string x.name, .int .i64 x.room, .string x.zone] 52)
            have oA0 := objAt_new wr #[.string x.name, .int .i64 x.room, .string x.zone] 52
            obtain ⟨V, hV⟩ : ∃ V, wr.alloc (.cells #[.string x.name, .int .i64 x.room, .string x.zone] 52) = V := ⟨_, rfl⟩
            rw [hV] at bA0 oA0
            have CV := bA0
            have oK := oA0
            clear bA0 oA0
            have hown2 := own_next hown CV
            have oL2 := objAt_next oL CV
            have pH2 := objAt_next pH CV
            have rH2 := objAt_next rH CV
            have ol2 := own_next ol CV
            have oj2 := own_next oj CV
            have B2 := below_trans hbr CV hbr.size
            have s2 := B2.size
            have u1 := objAt_cell oL2 2 rfl
            have y0 := objAt_cell oK 0 rfl
            have y1 := objAt_cell oK 1 rfl
            have y2 := objAt_cell oK 2 rfl
            have Q2 := Lib.hid (And.intro oL2 (And.intro pH2 (And.intro rH2 (And.intro ol2 B2))))
            clear oL pH rH ol hown hbr oL2 pH2 rH2 ol2 B2 CV oK oj
            go_wp2_with (at_builtin; refine wpList_append_own _ rfl _ _ 27 rfl w.heap.size 52 i1 _ 3 40 Tryz.underlying27 Ni.out Nz0.out Nz1.out Nz2.out rfl (by decide) _ _ _ rfl (hown2.alloc _) ⟨V.heap.size, 0, none⟩ 1 1 (cNode (⟨x.name, x.room, x.zone⟩ : NodeD)) rfl rfl ?c1 ?c2 ?c3 ?c4 ?c5 ?_)
            case c1 => exact node_new V (⟨x.name, x.room, x.zone⟩ : NodeD) _
            case c2 => exact node_ones (⟨x.name, x.room, x.zone⟩ : NodeD)
            case c3 => unfold maxLen; omega
            case c4 => omega
            case c5 => simp; omega
            · intro v3 w3 own3 hg3 _
              obtain ⟨oL2, pH2, rH2, ol2, B2⟩ := Q2.out
              have bN := below_one V (.cells #[.string x.name, .int .i64 x.room, .string x.zone] 52)
              have hb3 := (below_trans B2 bN B2.size).grown hg3 (by simp; omega) (fun k hk' => (hown2.lt k hk').1)
              have oL3 := objAt_row (objAt_next oL2 bN) (own_next hown2 bN) (by decide) hg3
              have pH3 := objAt_row (objAt_next pH2 bN) (own_next hown2 bN) (by decide) hg3
              have rH3 := objAt_row (objAt_next rH2 bN) (own_next hown2 bN) (by decide) hg3
              have ol3 := own_row (own_next ol2 bN) (own_next hown2 bN) (by decide) hg3
              have oj3 := own_row (own_next oj2 bN) (own_next hown2 bN) (by decide) hg3
              obtain ⟨ad3, cap3, rfl⟩ := slice_of own3
              rw [← cNodes_one, ← cNodes_append] at own3
              have own4 : w3.ownsRow w.heap.size 52 3 (.slice ad3 (i + 1) cap3) (i + 1) (cNodes ((s.nodes.take (i + 1)).map (dnN 2))) := by rw [HMp.out, show dnN 2 x = (⟨x.name, x.room, x.zone⟩ : NodeD) from rfl]; simpa using own3
              have e1 := objAt_free oL3 2
              have e2 := objAt_cell oL3 2 rfl
              have oL4 : ObjAt L #[.int .i64 0, .slice ej s.jobs.length gj, .slice ad3 (i + 1) cap3, .slice el s.leases.length gl] 30 _ := objAt_set oL3 2 (.slice ad3 (i + 1) cap3)
              have pH4 := objAt_other pH3 (c := L) (by omega) 2 (.slice ad3 (i + 1) cap3)
              have rH4 := objAt_other rH3 (c := L) (by omega) 2 (.slice ad3 (i + 1) cap3)
              have own5 := own_box own4 oL3 (by decide) 2 (.slice ad3 (i + 1) cap3)
              have ol4 := own_box ol3 oL3 (by decide) 2 (.slice ad3 (i + 1) cap3)
              have hb4 := hb3.setCell (p := ⟨L, 2, none⟩) (show w.heap.size ≤ L by omega) (.slice ad3 (i + 1) cap3)
              have oj4 := own_box oj3 oL3 (by decide) 2 (.slice ad3 (i + 1) cap3)
              have Q4 := Lib.hid (And.intro oL4 (And.intro pH4 (And.intro rH4 (And.intro own5 (And.intro ol4 hb4)))))
              have J4 := Lib.hid oj4
              clear oL2 pH2 rH2 ol2 B2 bN hb3 oL3 pH3 rH3 ol3 own3 own4 hg3 hown2 oL4 pH4 rH4 own5 ol4 hb4 s2 u1 Q2 oj2 oj3 oj4
              go_wp2
              go_roundw
              case rel =>
                obtain ⟨oL4, pH4, rH4, own5, ol4, hb4⟩ := Q4.out
                exact ⟨i + 1, .slice ad3 (i + 1) cap3, by simp, by omega, oL4, pH4, rH4, own5, J4.out, ol4, hb4⟩
              case measure => simp [intOf]; omega
          · obtain rfl : i = s.nodes.length := by omega
            rw [List.take_length] at hown
            have hlm : (s.nodes.map (dnN 2)).length = s.nodes.length := List.length_map _
            have hown' := hown
            rw [← hlm] at hown'
            obtain ⟨en, gn, rfl, _⟩ := own_nodes hown'
            rw [hlm] at hown oL
            clear hown' hlm
            have D0 := downS_drew (⟨pH, oL, oL, ⟨_, _, _, _, rH⟩, hbr, Nat.le_refl _, by omega, by omega⟩ : DownS w.heap.size L L _ _ _ _ _ _ _ _ _ _ _ _ w wr)
            have s0' := downS_all D0
            have dr : Below wr.heap.size wr wr.drew := (Below.refl _ _).drew
            have qj := own_next oj dr
            have qn := own_next hown dr
            have ql := own_next ol dr
            have HU1 := Lib.hid (HUp.out ej en el gj gn gl wr.drew (ownJobs (xs := s.jobs.map (dnJ 2)) qj (by simp)) (ownNodes (xs := s.nodes.map (dnN 2)) qn (by simp)) (ownLeases ql rfl))
            have BD := Lib.hid hbr.drew
            have HSM := Lib.hid (fun (aj' an' al' : Option Addr) (cj' cn' cl' B : Nat) (x : World) (ow : OwnS B aj' an' al' cj' cn' cl' U x) (hb : Below w.heap.size w x) => same_is U s aj' an' al' aj an al cj' cn' cl' cj cn cl HZU.out x (ownS_at ow).1 (ownS_at ow).2.1 (ownS_at ow).2.2 (jobsAt_next HM.out.1 hb) (nodesAt_next HM.out.2.1 hb) (leasesAt_next HM.out.2.2 hb))
            have OW := Lib.hid (And.intro qj (And.intro qn ql))
            clear D0 dr qj qn ql oL pH rH hown oj ol hbr lL
            go_wp2_with fail
            go_region_held3 (fun x => ((x.cell? ⟨w.heap.size, 0, none⟩ = some (.int .i64 s.rev) ∧ x.cell? ⟨w.heap.size, 1, none⟩ = some (.slice aj s.jobs.length cj) ∧ x.cell? ⟨w.heap.size, 2, none⟩ = some (.slice an s.nodes.length cn) ∧ x.cell? ⟨w.heap.size, 3, none⟩ = some (.slice al s.leases.length cl)) ∧ (x.cell? ⟨L, 0, none⟩ = some (.int .i64 0) ∧ x.cell? ⟨L, 1, none⟩ = some (.slice ej s.jobs.length gj) ∧ x.cell? ⟨L, 2, none⟩ = some (.slice en s.nodes.length gn) ∧ x.cell? ⟨L, 3, none⟩ = some (.slice el s.leases.length gl)) ∧ (x.cell? ⟨L, 0, none⟩ = some (.int .i64 0) ∧ x.cell? ⟨L, 1, none⟩ = some (.slice ej s.jobs.length gj) ∧ x.cell? ⟨L, 2, none⟩ = some (.slice en s.nodes.length gn) ∧ x.cell? ⟨L, 3, none⟩ = some (.slice el s.leases.length gl)) ∧ (x.frozen? ⟨w.heap.size + 1, 0, none⟩ = false ∧ x.frozen? ⟨w.heap.size + 1, 1, none⟩ = false ∧ x.frozen? ⟨w.heap.size + 1, 2, none⟩ = false ∧ x.frozen? ⟨w.heap.size + 1, 3, none⟩ = false)) ∧ DownS w.heap.size L L (.int .i64 s.rev) (.slice aj s.jobs.length cj) (.slice an s.nodes.length cn) (.slice al s.leases.length cl) (.int .i64 0) (.slice ej s.jobs.length gj) (.slice en s.nodes.length gn) (.slice el s.leases.length gl) (.int .i64 0) (.slice ej s.jobs.length gj) (.slice en s.nodes.length gn) (.slice el s.leases.length gl) w x)
              (first | with_reducible assumption | with_reducible exact s0' | with_reducible exact downS_all (downS_put s2.2 _ _ _ _))
              (first
                | (go_at_call 17; (with_reducible refine HU1.out.mono ?_); rintro e x1 ⟨bj, bn, bl, dj, dn, dl, rfl, owU, c1⟩; have s1 := downS_all (downS_call s0'.2 c1); have bx1 := s1.2.2.2.2.2.1)
                | (go_at_call 9; (with_reducible refine (HSM.out _ _ _ _ _ _ _ _ owU bx1).mono ?_); rintro e x2 ⟨c, rfl, hcc, c2⟩; have s2 := downS_all (downS_call s1.2 c2); obtain ⟨_, _, _, ⟨a0, a1, a2, a3, rr⟩, _⟩ := And.right s2; have m0 := objAt_cell rr 0 rfl; have m1 := objAt_cell rr 1 rfl; have m2 := objAt_cell rr 2 rfl; have m3 := objAt_cell rr 3 rfl))
            all_goals
              have oF := obj_put4 rr (.int .i64 0) (.slice ej s.jobs.length gj) (.slice en s.nodes.length gn) (.slice el s.leases.length gl)
              have BF := Lib.hid (below_put4 s2.2.2.2.2.2.1 (b := w.heap.size + 1) (by omega) (.int .i64 0) (.slice ej s.jobs.length gj) (.slice en s.nodes.length gn) (.slice el s.leases.length gl))
              have Z1 := Lib.hid (own_put4 (own_next (own_next OW.out.1 c1) c2) rr (by decide) (.int .i64 0) (.slice ej s.jobs.length gj) (.slice en s.nodes.length gn) (.slice el s.leases.length gl))
              have Z2 := Lib.hid (own_put4 (own_next (own_next OW.out.2.1 c1) c2) rr (by decide) (.int .i64 0) (.slice ej s.jobs.length gj) (.slice en s.nodes.length gn) (.slice el s.leases.length gl))
              have Z3 := Lib.hid (own_put4 (own_next (own_next OW.out.2.2 c1) c2) rr (by decide) (.int .i64 0) (.slice ej s.jobs.length gj) (.slice en s.nodes.length gn) (.slice el s.leases.length gl))
              have t0 := objAt_cell oF 0 rfl
              have t1 := objAt_cell oF 1 rfl
              have t2 := objAt_cell oF 2 rfl
              have t3 := objAt_cell oF 3 rfl
              have TT := Lib.hid (And.intro t0 (And.intro t1 (And.intro t2 t3)))
              have HCC := Lib.hid hcc
              clear oF t0 t1 t2 t3 hcc
              go_wp2
              obtain ⟨t0, t1, t2, t3⟩ := TT.out
              exact bodyPost_ret (v := .tuple #[.agg #[.int .i64 0, .slice ej s.jobs.length gj, .slice en s.nodes.length gn, .slice el s.leases.length gl], .bool c, .int .i64 0]) (by simp [results, Tryz.results8, go_sem, t0, t1, t2, t3]) rfl ⟨_, _, _, _, _, _, c, rfl, HCC.out, Z1.out, Z2.out, Z3.out, BF.out⟩
set_option maxRecDepth 100000 in
set_option maxHeartbeats 4000000 in
theorem rdown_3 (s : StD) (aj an al : Option Addr) (cj cn cl : Nat) (hck : checkE V8 s = 0) (w : World) (hmj : JobsAt w aj s.jobs) (hmn : NodesAt w an s.nodes) (hml : LeasesAt w al s.leases) :
    Calls Tryz.prog 8 #[.agg #[.int .i64 s.rev, .slice aj s.jobs.length cj, .slice an s.nodes.length cn, .slice al s.leases.length cl], .int .i64 3] w fun e w' => ∃ (aj' : Option Addr) (cj' : Nat) (an' : Option Addr) (cn' : Nat) (al' : Option Addr) (cl' : Nat) (c : Bool), e = .returned (.tuple #[.agg #[.int .i64 s.rev, .slice aj' s.jobs.length cj', .slice an' s.nodes.length cn', .slice al' s.leases.length cl'], .bool c, .int .i64 0]) ∧ (c = true ↔ upS 3 3 (dnS 3 s) = s) ∧ w'.ownsRow w.heap.size 50 5 (.slice aj' s.jobs.length cj') s.jobs.length (cJobs (s.jobs.map (dnJ 3))) ∧ w'.ownsRow w.heap.size 52 3 (.slice an' s.nodes.length cn') s.nodes.length (cNodes (s.nodes.map (dnN 3))) ∧ w'.ownsRow w.heap.size 48 3 (.slice al' s.leases.length cl') s.leases.length (cLeases s.leases) ∧ Below w.heap.size w w' := by
  obtain ⟨hl, _⟩ := small_valid hck
  have HZs := Lib.hid (size3_valid hck)
  have HRc := rcheck_any s.rev aj an al cj cn cl s.jobs s.nodes s.leases
  rw [show (⟨s.rev, s.jobs, s.nodes, s.leases⟩ : StD) = s from rfl, hck] at HRc
  have HRc := Lib.hid HRc
  have HO := Lib.hid (fun w => outside_is 3 1 3 w)
  have hin : inR 3 1 3 = true := by decide
  rw [hin] at HO
  clear hin
  obtain ⟨U, hU⟩ : ∃ U, upS 3 3 (dnS 3 s) = U := ⟨_, rfl⟩
  rw [hU]
  have HUp := fun ej en el gj gn gl W hj hn hle => rup_any (dnS 3 s) ej en el gj gn gl 3 3 (by omega) (by have e := dn_lens 3 s; rw [e.1, e.2.1, e.2.2]; exact hl) W hj hn hle
  have eD := dn_lens 3 s
  rw [hU, eD.1, eD.2.1, eD.2.2] at HUp
  have eR : (dnS 3 s).rev = s.rev := rfl
  rw [eR] at HUp
  have HUp := Lib.hid HUp
  have HZU := Lib.hid (show U.jobs.length ≤ 140737488355328 ∧ U.nodes.length ≤ 140737488355328 ∧ U.leases.length ≤ 140737488355328 by
    have e := up_lens 3 3 (dnS 3 s)
    rw [hU] at e
    rw [e.1, e.2.1, e.2.2, eD.1, eD.2.1, eD.2.2]
    have := HZs.out
    omega)
  clear hU eD eR
  obtain ⟨W0, hW0⟩ : ∃ W0, (w.alloc (.cells #[.int .i64 s.rev, .slice aj s.jobs.length cj, .slice an s.nodes.length cn, .slice al s.leases.length cl] 30)).alloc (.cells #[.int .i64 0, .slice none 0 0, .slice none 0 0, .slice none 0 0] 30) = W0 := ⟨_, rfl⟩
  obtain ⟨p0, r0, B0, sz0⟩ := two_new w _ _ _ _ _ W0 hW0
  obtain ⟨i0, qi, qz0, qz1, qz2⟩ := info_parts' Tryz.info_job
  have Hi := Lib.hid qi
  have Hz0 := Lib.hid qz0
  have Hz1 := Lib.hid qz1
  have Hz2 := Lib.hid qz2
  obtain ⟨i1, qi', qz0', qz1', qz2'⟩ := info_parts' Tryz.info_node
  have Ni := Lib.hid qi'
  have Nz0 := Lib.hid qz0'
  have Nz1 := Lib.hid qz1'
  have Nz2 := Lib.hid qz2'
  clear qi qz0 qz1 qz2 qi' qz0' qz1' qz2'
  have HM := Lib.hid (And.intro hmj (And.intro hmn hml))
  obtain ⟨hl1, hl2, hl3⟩ := hl
  have HRc0 := Lib.hid (HRc.out W0 (jobsAt_next hmj B0) (nodesAt_next hmn B0) (leasesAt_next hml B0))
  have h0 := objAt_cell p0 0 rfl
  have h1 := objAt_cell p0 1 rfl
  have h2 := objAt_cell p0 2 rfl
  have h3 := objAt_cell p0 3 rfl
  have P00 := Lib.hid (And.intro p0 (And.intro r0 (And.intro B0 sz0)))
  clear hmj hmn hml p0 r0 B0 sz0 hck HRc
  go_enter Tryz.func8, Tryz.ntmps8
  go_wp2_with fail
  refine HRc0.out.mono ?_
  rintro e W1 ⟨rfl, b1⟩
  clear h0 h1 h2 h3 HRc0
  go_wp2_with fail
  refine (HO.out _).mono ?_
  rintro e w' ⟨rfl, rfl⟩
  obtain ⟨p00, r00, B00, sz00⟩ := P00.out
  have p0 := objAt_next p00 b1
  have r0 := objAt_next r00 b1
  have B0 := below_trans B00 b1 B00.size
  have sz0 : w.heap.size + 2 ≤ W1.heap.size := by have := b1.size; omega
  clear p00 r00 B00 sz00 b1 P00
  have bN := below_one W1 (.cells #[.int .i64 0, .slice none 0 0, .slice none 0 0, .slice none 0 0] 30)
  have HCA := Lib.hid (copy_lease s.leases al cl hl3 W1.drew (leasesAt_next HM.out.2.2 B0.drew))
  have HCB := Lib.hid (copy_lease s.leases al cl hl3 (W1.alloc (.cells #[.int .i64 0, .slice none 0 0, .slice none 0 0, .slice none 0 0] 30)).drew (leasesAt_next HM.out.2.2 (below_trans B0 bN B0.size).drew))
  have OB := Lib.hid (objAt_drew (objAt_new W1 #[.int .i64 0, .slice none 0 0, .slice none 0 0, .slice none 0 0] 30))
  have t0 := refS_all (w := (W1.alloc (.cells #[.int .i64 0, .slice none 0 0, .slice none 0 0, .slice none 0 0] 30)).drew) (⟨objAt_drew (objAt_next p0 bN), objAt_drew (objAt_next r0 bN), (below_trans B0 bN B0.size).drew⟩ : RefS w.heap.size _ _ _ _ w _)
  have s0 := refS_all (w := W1.drew) (⟨objAt_drew p0, objAt_drew r0, B0.drew⟩ : RefS w.heap.size _ _ _ _ w W1.drew)
  have SZ := Lib.hid sz0
  have hb2 : w.heap.size + 1 < W1.heap.size := by omega
  clear p0 r0 B0 sz0 bN
  go_wp2_with fail
  go_cut [8] from 22 (fun lv wc => ∃ L el gl, lv = .pointer (some ⟨L, 0, none⟩) ∧ w.heap.size + 2 ≤ L ∧ ObjAt L #[.int .i64 s.rev, .slice none 0 0, .slice none 0 0, .slice el s.leases.length gl] 30 wc ∧ RefS w.heap.size (.int .i64 s.rev) (.slice aj s.jobs.length cj) (.slice an s.nodes.length cn) (.slice al s.leases.length cl) w wc ∧ wc.ownsRow w.heap.size 48 3 (.slice el s.leases.length gl) s.leases.length (cLeases s.leases))
  case first =>
    go_region_held3 (fun x => (x.cell? ⟨w.heap.size, 0, none⟩ = some (.int .i64 s.rev) ∧ x.cell? ⟨w.heap.size, 3, none⟩ = some (.slice al s.leases.length cl)) ∧ RefS w.heap.size (.int .i64 s.rev) (.slice aj s.jobs.length cj) (.slice an s.nodes.length cn) (.slice al s.leases.length cl) w x)
      (first | with_reducible assumption | with_reducible exact s0 | with_reducible exact s1.1 | with_reducible exact t0 | with_reducible exact refS_all (refS_put s1.1.2 hb2 _ _ _ _) | exact refS_all (refS_next s1.1.2 (below_one _ _)) | exact refS_all (refS_next s0.2 (below_one _ _)))
      (first
        | (go_at_call 24; (with_reducible refine HCA.out.mono ?_); rintro e x1 ⟨el, gl, rfl, ol, c1⟩; have s1 := refS_copy c1 ol s0)
        | (go_at_call 24; (with_reducible refine HCB.out.mono ?_); rintro e x1 ⟨el, gl, rfl, ol, c1⟩; have s1 := refS_copy c1 ol t0; have oB := objAt_next OB.out c1; have m0 := objAt_cell oB 0 rfl; have m1 := objAt_cell oB 1 rfl; have m2 := objAt_cell oB 2 rfl; have m3 := objAt_cell oB 3 rfl; have f0 := objAt_free oB 0; have f1 := objAt_free oB 1; have f2 := objAt_free oB 2; have f3 := objAt_free oB 3))
    · rename_i hS
      have hz := objAt_lt s1.1.2.2.1
      go_wp2_with fail
      go_meet
      case rel => exact ⟨x1.heap.size, el, gl, rfl, (by omega), objAt_new x1 _ _, hS.2, own_next s1.2 (below_one _ _)⟩
    · rename_i hS
      have hz := SZ.out
      go_wp2_with fail
      go_meet
      case rel => exact ⟨W1.heap.size, el, gl, rfl, (by omega), obj_put4 (objAt_next OB.out c1) _ _ _ _, hS.2, own_put4 s1.2 (objAt_next OB.out c1) (by decide) _ _ _ _⟩
  case rest =>
    obtain ⟨L, el, gl, rfl, hL, oL, hS, ol⟩ := hcut
    obtain ⟨pH, rH, BH⟩ := hS
    have n1 := objAt_cell pH 1 rfl
    have P0 := Lib.hid (And.intro oL (And.intro pH (And.intro rH (And.intro ol BH))))
    clear oL pH rH ol BH
    go_wp2
    go_loopw [34] (fun iv wr => ∃ (i : Nat) (pv : Value), iv = .int .i64 (i : Int) ∧ i ≤ s.jobs.length ∧ ObjAt L #[.int .i64 s.rev, pv, .slice none 0 0, .slice el s.leases.length gl] 30 wr ∧ ObjAt w.heap.size #[.int .i64 s.rev, .slice aj s.jobs.length cj, .slice an s.nodes.length cn, .slice al s.leases.length cl] 30 wr ∧ ObjAt (w.heap.size + 1) #[.int .i64 0, .slice none 0 0, .slice none 0 0, .slice none 0 0] 30 wr ∧ wr.ownsRow w.heap.size 50 5 pv i (cJobs ((s.jobs.take i).map (dnJ 3))) ∧ wr.ownsRow w.heap.size 48 3 (.slice el s.leases.length gl) s.leases.length (cLeases s.leases) ∧ Below w.heap.size w wr) (fun iv _ => s.jobs.length - (intOf iv).toNat)
    case atStart =>
      obtain ⟨oL, pH, rH, ol, BH⟩ := P0.out
      exact ⟨0, _, rfl, Nat.zero_le _, oL, pH, rH, World.ownsRow_nil _ _ _ _, ol, BH⟩
    case round =>
      clear P0 n1
      obtain ⟨i, pv, rfl, hi, oL, pH, rH, hown, ol, hbr⟩ := hrel
      have lL := objAt_lt oL
      by_cases h : (i : Int) < (s.jobs.length : Int)
      · have hil : i < s.jobs.length := by omega
        obtain ⟨a, rfl, hal, k0, k1, k2, k3, k4⟩ := jobsAt_next HM.out.1 hbr i hil
        obtain ⟨x, hxi⟩ : ∃ x, s.jobs[i] = x := ⟨_, rfl⟩
        rw [hxi] at k0 k1 k2 k3 k4
        have HMp := Lib.hid (map_take (dnJ 3) s.jobs i hil)
        rw [hxi] at HMp
        clear hxi
        have bA0 := below_one wr (.cells #[.string x.name, .int .i64 x.prio, .int .i64 x.need, .int .i64 x.tries, .string x.tag] 50)
        have oA0 := objAt_new wr #[.string x.name, .int .i64 x.prio, .int .i64 x.need, .int .i64 x.tries, .string x.tag] 50
        obtain ⟨V, hV⟩ : ∃ V, wr.alloc (.cells #[.string x.name, .int .i64 x.prio, .int .i64 x.need, .int .i64 x.tries, .string x.tag] 50) = V := ⟨_, rfl⟩
        rw [hV] at bA0 oA0
        have CV := bA0
        have oK := oA0
        clear bA0 oA0
        have hown2 := own_next hown CV
        have oL2 := objAt_next oL CV
        have pH2 := objAt_next pH CV
        have rH2 := objAt_next rH CV
        have ol2 := own_next ol CV
        have B2 := below_trans hbr CV hbr.size
        have s2 := B2.size
        have u1 := objAt_cell oL2 1 rfl
        have y0 := objAt_cell oK 0 rfl
        have y1 := objAt_cell oK 1 rfl
        have y2 := objAt_cell oK 2 rfl
        have y3 := objAt_cell oK 3 rfl
        have y4 := objAt_cell oK 4 rfl
        have Q2 := Lib.hid (And.intro oL2 (And.intro pH2 (And.intro rH2 (And.intro ol2 B2))))
        clear oL pH rH ol hown hbr oL2 pH2 rH2 ol2 B2 CV oK
        go_wp2_with (at_builtin; refine wpList_append_own _ rfl _ _ 26 rfl w.heap.size 50 i0 _ 5 56 Tryz.underlying26 Hi.out Hz0.out Hz1.out Hz2.out rfl (by decide) _ _ _ rfl (hown2.alloc _) ⟨V.heap.size, 0, none⟩ 1 1 (cJob (⟨x.name, x.prio, x.need, x.tries, x.tag⟩ : JobD)) rfl rfl ?c1 ?c2 ?c3 ?c4 ?c5 ?_)
        case c1 => exact job_new V (⟨x.name, x.prio, x.need, x.tries, x.tag⟩ : JobD) _
        case c2 => exact job_ones (⟨x.name, x.prio, x.need, x.tries, x.tag⟩ : JobD)
        case c3 => unfold maxLen; omega
        case c4 => omega
        case c5 => simp; omega
        · intro v3 w3 own3 hg3 _
          obtain ⟨oL2, pH2, rH2, ol2, B2⟩ := Q2.out
          have bN := below_one V (.cells #[.string x.name, .int .i64 x.prio, .int .i64 x.need, .int .i64 x.tries, .string x.tag] 50)
          have hb3 := (below_trans B2 bN B2.size).grown hg3 (by simp; omega) (fun k hk' => (hown2.lt k hk').1)
          have oL3 := objAt_row (objAt_next oL2 bN) (own_next hown2 bN) (by decide) hg3
          have pH3 := objAt_row (objAt_next pH2 bN) (own_next hown2 bN) (by decide) hg3
          have rH3 := objAt_row (objAt_next rH2 bN) (own_next hown2 bN) (by decide) hg3
          have ol3 := own_row (own_next ol2 bN) (own_next hown2 bN) (by decide) hg3
          obtain ⟨ad3, cap3, rfl⟩ := slice_of own3
          rw [← cJobs_one, ← cJobs_append] at own3
          have own4 : w3.ownsRow w.heap.size 50 5 (.slice ad3 (i + 1) cap3) (i + 1) (cJobs ((s.jobs.take (i + 1)).map (dnJ 3))) := by rw [HMp.out, show dnJ 3 x = (⟨x.name, x.prio, x.need, x.tries, x.tag⟩ : JobD) from rfl]; simpa using own3
          have e1 := objAt_free oL3 1
          have e2 := objAt_cell oL3 1 rfl
          have oL4 : ObjAt L #[.int .i64 s.rev, .slice ad3 (i + 1) cap3, .slice none 0 0, .slice el s.leases.length gl] 30 _ := objAt_set oL3 1 (.slice ad3 (i + 1) cap3)
          have pH4 := objAt_other pH3 (c := L) (by omega) 1 (.slice ad3 (i + 1) cap3)
          have rH4 := objAt_other rH3 (c := L) (by omega) 1 (.slice ad3 (i + 1) cap3)
          have own5 := own_box own4 oL3 (by decide) 1 (.slice ad3 (i + 1) cap3)
          have ol4 := own_box ol3 oL3 (by decide) 1 (.slice ad3 (i + 1) cap3)
          have hb4 := hb3.setCell (p := ⟨L, 1, none⟩) (show w.heap.size ≤ L by omega) (.slice ad3 (i + 1) cap3)
          have Q4 := Lib.hid (And.intro oL4 (And.intro pH4 (And.intro rH4 (And.intro own5 (And.intro ol4 hb4)))))
          clear oL2 pH2 rH2 ol2 B2 bN hb3 oL3 pH3 rH3 ol3 own3 own4 hg3 hown2 oL4 pH4 rH4 own5 ol4 hb4 s2 u1 Q2
          go_wp2
          go_roundw
          case rel =>
            obtain ⟨oL4, pH4, rH4, own5, ol4, hb4⟩ := Q4.out
            exact ⟨i + 1, .slice ad3 (i + 1) cap3, by simp, by omega, oL4, pH4, rH4, own5, ol4, hb4⟩
          case measure => simp [intOf]; omega
      · obtain rfl : i = s.jobs.length := by omega
        rw [List.take_length] at hown
        have hlm : (s.jobs.map (dnJ 3)).length = s.jobs.length := List.length_map _
        have hown' := hown
        rw [← hlm] at hown'
        obtain ⟨ej, gj, rfl, _⟩ := own_jobs hown'
        rw [hlm] at hown oL
        clear hown' hlm
        have n2 := objAt_cell pH 2 rfl
        have P1 := Lib.hid (And.intro oL (And.intro pH (And.intro rH (And.intro hown (And.intro ol hbr)))))
        clear oL pH rH hown ol hbr lL
        go_wp2
        go_loopw [54] (fun iv wr => ∃ (i : Nat) (pv : Value), iv = .int .i64 (i : Int) ∧ i ≤ s.nodes.length ∧ ObjAt L #[.int .i64 s.rev, .slice ej s.jobs.length gj, pv, .slice el s.leases.length gl] 30 wr ∧ ObjAt w.heap.size #[.int .i64 s.rev, .slice aj s.jobs.length cj, .slice an s.nodes.length cn, .slice al s.leases.length cl] 30 wr ∧ ObjAt (w.heap.size + 1) #[.int .i64 0, .slice none 0 0, .slice none 0 0, .slice none 0 0] 30 wr ∧ wr.ownsRow w.heap.size 52 3 pv i (cNodes ((s.nodes.take i).map (dnN 3))) ∧ wr.ownsRow w.heap.size 50 5 (.slice ej s.jobs.length gj) s.jobs.length (cJobs (s.jobs.map (dnJ 3))) ∧ wr.ownsRow w.heap.size 48 3 (.slice el s.leases.length gl) s.leases.length (cLeases s.leases) ∧ Below w.heap.size w wr) (fun iv _ => s.nodes.length - (intOf iv).toNat)
        case atStart =>
          obtain ⟨oL, pH, rH, oj, ol, BH⟩ := P1.out
          exact ⟨0, _, rfl, Nat.zero_le _, oL, pH, rH, World.ownsRow_nil _ _ _ _, oj, ol, BH⟩
        case round =>
          clear P1 n2
          obtain ⟨i, pv, rfl, hi, oL, pH, rH, hown, oj, ol, hbr⟩ := hrel
          have lL := objAt_lt oL
          by_cases h : (i : Int) < (s.nodes.length : Int)
          · have hil : i < s.nodes.length := by omega
            obtain ⟨a, rfl, hal, k0, k1, k2⟩ := nodesAt_next HM.out.2.1 hbr i hil
            obtain ⟨x, hxi⟩ : ∃ x, s.nodes[i] = x := ⟨_, rfl⟩
            rw [hxi] at k0 k1 k2
            have HMp := Lib.hid (map_take (dnN 3) s.nodes i hil)
            rw [hxi] at HMp
            clear hxi
            have bA0 := below_one wr (.cells #[.string x.name, .int .i64 x.room, .string x.zone] 52)
            have oA0 := objAt_new wr #[.string x.name, .int .i64 x.room, .string x.zone] 52
            obtain ⟨V, hV⟩ : ∃ V, wr.alloc (.cells #[.string x.name, .int .i64 x.room, .string x.zone] 52) = V := ⟨_, rfl⟩
            rw [hV] at bA0 oA0
            have CV := bA0
            have oK := oA0
            clear bA0 oA0
            have hown2 := own_next hown CV
            have oL2 := objAt_next oL CV
            have pH2 := objAt_next pH CV
            have rH2 := objAt_next rH CV
            have ol2 := own_next ol CV
            have oj2 := own_next oj CV
            have B2 := below_trans hbr CV hbr.size
            have s2 := B2.size
            have u1 := objAt_cell oL2 2 rfl
            have y0 := objAt_cell oK 0 rfl
            have y1 := objAt_cell oK 1 rfl
            have y2 := objAt_cell oK 2 rfl
            have Q2 := Lib.hid (And.intro oL2 (And.intro pH2 (And.intro rH2 (And.intro ol2 B2))))
            clear oL pH rH ol hown hbr oL2 pH2 rH2 ol2 B2 CV oK oj
            go_wp2_with (at_builtin; refine wpList_append_own _ rfl _ _ 27 rfl w.heap.size 52 i1 _ 3 40 Tryz.underlying27 Ni.out Nz0.out Nz1.out Nz2.out rfl (by decide) _ _ _ rfl (hown2.alloc _) ⟨V.heap.size, 0, none⟩ 1 1 (cNode (⟨x.name, x.room, x.zone⟩ : NodeD)) rfl rfl ?c1 ?c2 ?c3 ?c4 ?c5 ?_)
            case c1 => exact node_new V (⟨x.name, x.room, x.zone⟩ : NodeD) _
            case c2 => exact node_ones (⟨x.name, x.room, x.zone⟩ : NodeD)
            case c3 => unfold maxLen; omega
            case c4 => omega
            case c5 => simp; omega
            · intro v3 w3 own3 hg3 _
              obtain ⟨oL2, pH2, rH2, ol2, B2⟩ := Q2.out
              have bN := below_one V (.cells #[.string x.name, .int .i64 x.room, .string x.zone] 52)
              have hb3 := (below_trans B2 bN B2.size).grown hg3 (by simp; omega) (fun k hk' => (hown2.lt k hk').1)
              have oL3 := objAt_row (objAt_next oL2 bN) (own_next hown2 bN) (by decide) hg3
              have pH3 := objAt_row (objAt_next pH2 bN) (own_next hown2 bN) (by decide) hg3
              have rH3 := objAt_row (objAt_next rH2 bN) (own_next hown2 bN) (by decide) hg3
              have ol3 := own_row (own_next ol2 bN) (own_next hown2 bN) (by decide) hg3
              have oj3 := own_row (own_next oj2 bN) (own_next hown2 bN) (by decide) hg3
              obtain ⟨ad3, cap3, rfl⟩ := slice_of own3
              rw [← cNodes_one, ← cNodes_append] at own3
              have own4 : w3.ownsRow w.heap.size 52 3 (.slice ad3 (i + 1) cap3) (i + 1) (cNodes ((s.nodes.take (i + 1)).map (dnN 3))) := by rw [HMp.out, show dnN 3 x = (⟨x.name, x.room, x.zone⟩ : NodeD) from rfl]; simpa using own3
              have e1 := objAt_free oL3 2
              have e2 := objAt_cell oL3 2 rfl
              have oL4 : ObjAt L #[.int .i64 s.rev, .slice ej s.jobs.length gj, .slice ad3 (i + 1) cap3, .slice el s.leases.length gl] 30 _ := objAt_set oL3 2 (.slice ad3 (i + 1) cap3)
              have pH4 := objAt_other pH3 (c := L) (by omega) 2 (.slice ad3 (i + 1) cap3)
              have rH4 := objAt_other rH3 (c := L) (by omega) 2 (.slice ad3 (i + 1) cap3)
              have own5 := own_box own4 oL3 (by decide) 2 (.slice ad3 (i + 1) cap3)
              have ol4 := own_box ol3 oL3 (by decide) 2 (.slice ad3 (i + 1) cap3)
              have hb4 := hb3.setCell (p := ⟨L, 2, none⟩) (show w.heap.size ≤ L by omega) (.slice ad3 (i + 1) cap3)
              have oj4 := own_box oj3 oL3 (by decide) 2 (.slice ad3 (i + 1) cap3)
              have Q4 := Lib.hid (And.intro oL4 (And.intro pH4 (And.intro rH4 (And.intro own5 (And.intro ol4 hb4)))))
              have J4 := Lib.hid oj4
              clear oL2 pH2 rH2 ol2 B2 bN hb3 oL3 pH3 rH3 ol3 own3 own4 hg3 hown2 oL4 pH4 rH4 own5 ol4 hb4 s2 u1 Q2 oj2 oj3 oj4
              go_wp2
              go_roundw
              case rel =>
                obtain ⟨oL4, pH4, rH4, own5, ol4, hb4⟩ := Q4.out
                exact ⟨i + 1, .slice ad3 (i + 1) cap3, by simp, by omega, oL4, pH4, rH4, own5, J4.out, ol4, hb4⟩
              case measure => simp [intOf]; omega
          · obtain rfl : i = s.nodes.length := by omega
            rw [List.take_length] at hown
            have hlm : (s.nodes.map (dnN 3)).length = s.nodes.length := List.length_map _
            have hown' := hown
            rw [← hlm] at hown'
            obtain ⟨en, gn, rfl, _⟩ := own_nodes hown'
            rw [hlm] at hown oL
            clear hown' hlm
            have D0 := downS_drew (⟨pH, oL, oL, ⟨_, _, _, _, rH⟩, hbr, Nat.le_refl _, by omega, by omega⟩ : DownS w.heap.size L L _ _ _ _ _ _ _ _ _ _ _ _ w wr)
            have s0' := downS_all D0
            have dr : Below wr.heap.size wr wr.drew := (Below.refl _ _).drew
            have qj := own_next oj dr
            have qn := own_next hown dr
            have ql := own_next ol dr
            have HU1 := Lib.hid (HUp.out ej en el gj gn gl wr.drew (ownJobs (xs := s.jobs.map (dnJ 3)) qj (by simp)) (ownNodes (xs := s.nodes.map (dnN 3)) qn (by simp)) (ownLeases ql rfl))
            have BD := Lib.hid hbr.drew
            have HSM := Lib.hid (fun (aj' an' al' : Option Addr) (cj' cn' cl' B : Nat) (x : World) (ow : OwnS B aj' an' al' cj' cn' cl' U x) (hb : Below w.heap.size w x) => same_is U s aj' an' al' aj an al cj' cn' cl' cj cn cl HZU.out x (ownS_at ow).1 (ownS_at ow).2.1 (ownS_at ow).2.2 (jobsAt_next HM.out.1 hb) (nodesAt_next HM.out.2.1 hb) (leasesAt_next HM.out.2.2 hb))
            have OW := Lib.hid (And.intro qj (And.intro qn ql))
            clear D0 dr qj qn ql oL pH rH hown oj ol hbr lL
            go_wp2_with fail
            go_region_held3 (fun x => ((x.cell? ⟨w.heap.size, 0, none⟩ = some (.int .i64 s.rev) ∧ x.cell? ⟨w.heap.size, 1, none⟩ = some (.slice aj s.jobs.length cj) ∧ x.cell? ⟨w.heap.size, 2, none⟩ = some (.slice an s.nodes.length cn) ∧ x.cell? ⟨w.heap.size, 3, none⟩ = some (.slice al s.leases.length cl)) ∧ (x.cell? ⟨L, 0, none⟩ = some (.int .i64 s.rev) ∧ x.cell? ⟨L, 1, none⟩ = some (.slice ej s.jobs.length gj) ∧ x.cell? ⟨L, 2, none⟩ = some (.slice en s.nodes.length gn) ∧ x.cell? ⟨L, 3, none⟩ = some (.slice el s.leases.length gl)) ∧ (x.cell? ⟨L, 0, none⟩ = some (.int .i64 s.rev) ∧ x.cell? ⟨L, 1, none⟩ = some (.slice ej s.jobs.length gj) ∧ x.cell? ⟨L, 2, none⟩ = some (.slice en s.nodes.length gn) ∧ x.cell? ⟨L, 3, none⟩ = some (.slice el s.leases.length gl)) ∧ (x.frozen? ⟨w.heap.size + 1, 0, none⟩ = false ∧ x.frozen? ⟨w.heap.size + 1, 1, none⟩ = false ∧ x.frozen? ⟨w.heap.size + 1, 2, none⟩ = false ∧ x.frozen? ⟨w.heap.size + 1, 3, none⟩ = false)) ∧ DownS w.heap.size L L (.int .i64 s.rev) (.slice aj s.jobs.length cj) (.slice an s.nodes.length cn) (.slice al s.leases.length cl) (.int .i64 s.rev) (.slice ej s.jobs.length gj) (.slice en s.nodes.length gn) (.slice el s.leases.length gl) (.int .i64 s.rev) (.slice ej s.jobs.length gj) (.slice en s.nodes.length gn) (.slice el s.leases.length gl) w x)
              (first | with_reducible assumption | with_reducible exact s0' | with_reducible exact downS_all (downS_put s2.2 _ _ _ _))
              (first
                | (go_at_call 17; (with_reducible refine HU1.out.mono ?_); rintro e x1 ⟨bj, bn, bl, dj, dn, dl, rfl, owU, c1⟩; have s1 := downS_all (downS_call s0'.2 c1); have bx1 := s1.2.2.2.2.2.1)
                | (go_at_call 9; (with_reducible refine (HSM.out _ _ _ _ _ _ _ _ owU bx1).mono ?_); rintro e x2 ⟨c, rfl, hcc, c2⟩; have s2 := downS_all (downS_call s1.2 c2); obtain ⟨_, _, _, ⟨a0, a1, a2, a3, rr⟩, _⟩ := And.right s2; have m0 := objAt_cell rr 0 rfl; have m1 := objAt_cell rr 1 rfl; have m2 := objAt_cell rr 2 rfl; have m3 := objAt_cell rr 3 rfl))
            all_goals
              have oF := obj_put4 rr (.int .i64 s.rev) (.slice ej s.jobs.length gj) (.slice en s.nodes.length gn) (.slice el s.leases.length gl)
              have BF := Lib.hid (below_put4 s2.2.2.2.2.2.1 (b := w.heap.size + 1) (by omega) (.int .i64 s.rev) (.slice ej s.jobs.length gj) (.slice en s.nodes.length gn) (.slice el s.leases.length gl))
              have Z1 := Lib.hid (own_put4 (own_next (own_next OW.out.1 c1) c2) rr (by decide) (.int .i64 s.rev) (.slice ej s.jobs.length gj) (.slice en s.nodes.length gn) (.slice el s.leases.length gl))
              have Z2 := Lib.hid (own_put4 (own_next (own_next OW.out.2.1 c1) c2) rr (by decide) (.int .i64 s.rev) (.slice ej s.jobs.length gj) (.slice en s.nodes.length gn) (.slice el s.leases.length gl))
              have Z3 := Lib.hid (own_put4 (own_next (own_next OW.out.2.2 c1) c2) rr (by decide) (.int .i64 s.rev) (.slice ej s.jobs.length gj) (.slice en s.nodes.length gn) (.slice el s.leases.length gl))
              have t0 := objAt_cell oF 0 rfl
              have t1 := objAt_cell oF 1 rfl
              have t2 := objAt_cell oF 2 rfl
              have t3 := objAt_cell oF 3 rfl
              have TT := Lib.hid (And.intro t0 (And.intro t1 (And.intro t2 t3)))
              have HCC := Lib.hid hcc
              clear oF t0 t1 t2 t3 hcc
              go_wp2
              obtain ⟨t0, t1, t2, t3⟩ := TT.out
              exact bodyPost_ret (v := .tuple #[.agg #[.int .i64 s.rev, .slice ej s.jobs.length gj, .slice en s.nodes.length gn, .slice el s.leases.length gl], .bool c, .int .i64 0]) (by simp [results, Tryz.results8, go_sem, t0, t1, t2, t3]) rfl ⟨_, _, _, _, _, _, c, rfl, HCC.out, Z1.out, Z2.out, Z3.out, BF.out⟩
set_option maxRecDepth 100000 in
set_option maxHeartbeats 4000000 in
theorem rdown_any (s : StD) (aj an al : Option Addr) (cj cn cl : Nat) (b : Int) (w : World) (hmj : JobsAt w aj s.jobs) (hmn : NodesAt w an s.nodes) (hml : LeasesAt w al s.leases) :
    Calls Tryz.prog 8 #[.agg #[.int .i64 s.rev, .slice aj s.jobs.length cj, .slice an s.nodes.length cn, .slice al s.leases.length cl], .int .i64 b] w fun e w' => ∃ (aj' an' al' : Option Addr) (cj' cn' cl' : Nat) (c : Bool), e = .returned (.tuple #[.agg #[.int .i64 (dnR s b).1.rev, .slice aj' (dnR s b).1.jobs.length cj', .slice an' (dnR s b).1.nodes.length cn', .slice al' (dnR s b).1.leases.length cl'], .bool c, .int .i64 ((dnR s b).2 : Nat)]) ∧ (c = true ↔ (dnR s b).2 = 0 ∧ upS b 3 (dnS b s) = s) ∧ OwnS w.heap.size aj' an' al' cj' cn' cl' (dnR s b).1 w' ∧ Below w.heap.size w w' := by
  by_cases hc : checkE V8 s ≠ 0
  · have hr : dnR s b = (zeroSt, checkE V8 s) := by unfold dnR; rw [if_pos hc]
    rw [hr]
    obtain ⟨W0, hW0⟩ : ∃ W0, (w.alloc (.cells #[.int .i64 s.rev, .slice aj s.jobs.length cj, .slice an s.nodes.length cn, .slice al s.leases.length cl] 30)).alloc (.cells #[.int .i64 0, .slice none 0 0, .slice none 0 0, .slice none 0 0] 30) = W0 := ⟨_, rfl⟩
    obtain ⟨p0, r0, B0, sz0⟩ := two_new w _ _ _ _ _ W0 hW0
    have HC := rcheck_any s.rev aj an al cj cn cl s.jobs s.nodes s.leases W0 (jobsAt_next hmj B0) (nodesAt_next hmn B0) (leasesAt_next hml B0)
    rw [show (⟨s.rev, s.jobs, s.nodes, s.leases⟩ : StD) = s from rfl] at HC
    have HC := Lib.hid HC
    have c0 := objAt_cell p0 0 rfl
    have c1 := objAt_cell p0 1 rfl
    have c2 := objAt_cell p0 2 rfl
    have c3 := objAt_cell p0 3 rfl
    have P0 := Lib.hid (And.intro r0 B0)
    have hc' : ((checkE V8 s : Int) != 0) = true := by simp; omega
    have HN : Hid (¬ checkE V8 s = 0) := hc
    clear hr hc p0 r0 B0 sz0 hmj hmn hml
    generalize checkE V8 s = c at HC hc' HN ⊢
    go_enter Tryz.func8, Tryz.ntmps8
    go_wp2_with fail
    refine HC.out.mono ?_
    rintro e w1 ⟨rfl, b1⟩
    obtain ⟨r0, B0⟩ := P0.out
    have r1 := objAt_next r0 b1
    have B1 := below_trans B0 b1 B0.size
    have f0 := objAt_free r1 0
    have f1 := objAt_free r1 1
    have f2 := objAt_free r1 2
    have f3 := objAt_free r1 3
    have m0 := objAt_cell r1 0 rfl
    have m1 := objAt_cell r1 1 rfl
    have m2 := objAt_cell r1 2 rfl
    have m3 := objAt_cell r1 3 rfl
    have oF := obj_put4 r1 (.int .i64 0) (.slice none 0 0) (.slice none 0 0) (.slice none 0 0)
    have BF := Lib.hid (below_put4 B1 (b := w.heap.size + 1) (by omega) (.int .i64 0) (.slice none 0 0) (.slice none 0 0) (.slice none 0 0))
    have t0 := objAt_cell oF 0 rfl
    have t1 := objAt_cell oF 1 rfl
    have t2 := objAt_cell oF 2 rfl
    have t3 := objAt_cell oF 3 rfl
    have TT := Lib.hid (And.intro t0 (And.intro t1 (And.intro t2 t3)))
    clear oF t0 t1 t2 t3 r0 B0 r1 B1 b1
    go_wp2
    obtain ⟨t0, t1, t2, t3⟩ := TT.out
    exact bodyPost_ret (v := .tuple #[.agg #[.int .i64 0, .slice none 0 0, .slice none 0 0, .slice none 0 0], .bool false, .int .i64 (c : Int)]) (by simp [results, Tryz.results8, go_sem, t0, t1, t2, t3]) rfl ⟨none, none, none, 0, 0, 0, false, rfl, ⟨fun h => (by cases h), fun h => absurd h.1 HN.out⟩, ownS_zero _ _, BF.out⟩
  · have hc0 : checkE V8 s = 0 := by simpa using hc
    by_cases hb : 1 ≤ b ∧ b ≤ 3
    · rw [dnR_ok hc0 hb]
      have e1 := (dn_lens b s).1
      have e2 := (dn_lens b s).2.1
      have : b = 1 ∨ b = 2 ∨ b = 3 := by omega
      rcases this with rfl | rfl | rfl
      · refine (rdown_1 s aj an al cj cn cl hc0 w hmj hmn hml).mono ?_
        rintro e w' ⟨aj', cj', an', cn', al', cl', c, rfl, hcc, o1, o2, o3, hbb⟩
        refine ⟨aj', an', al', cj', cn', cl', c, ?_, ⟨fun h => ⟨rfl, hcc.1 h⟩, fun h => hcc.2 h.2⟩, ⟨?_, ?_, ?_⟩, hbb⟩
        · rw [e1, e2]; rfl
        · rw [e1]; exact o1
        · rw [e2]; exact o2
        · exact o3
      · refine (rdown_2 s aj an al cj cn cl hc0 w hmj hmn hml).mono ?_
        rintro e w' ⟨aj', cj', an', cn', al', cl', c, rfl, hcc, o1, o2, o3, hbb⟩
        refine ⟨aj', an', al', cj', cn', cl', c, ?_, ⟨fun h => ⟨rfl, hcc.1 h⟩, fun h => hcc.2 h.2⟩, ⟨?_, ?_, ?_⟩, hbb⟩
        · rw [e1, e2]; rfl
        · rw [e1]; exact o1
        · rw [e2]; exact o2
        · exact o3
      · refine (rdown_3 s aj an al cj cn cl hc0 w hmj hmn hml).mono ?_
        rintro e w' ⟨aj', cj', an', cn', al', cl', c, rfl, hcc, o1, o2, o3, hbb⟩
        refine ⟨aj', an', al', cj', cn', cl', c, ?_, ⟨fun h => ⟨rfl, hcc.1 h⟩, fun h => hcc.2 h.2⟩, ⟨?_, ?_, ?_⟩, hbb⟩
        · rw [e1, e2]; rfl
        · rw [e1]; exact o1
        · rw [e2]; exact o2
        · exact o3
    · have hr : dnR s b = (zeroSt, 1) := by
        unfold dnR
        rw [if_neg hc, if_neg (fun h => hb ((okV_iff b).1 h))]
      rw [hr]
      have hin : inR b 1 3 = false := by
        cases h : inR b 1 3 with
        | false => rfl
        | true => exact absurd (by simpa [inR] using h) hb
      have HO := Lib.hid (fun w => outside_is b 1 3 w)
      rw [hin] at HO
      obtain ⟨W0, hW0⟩ : ∃ W0, (w.alloc (.cells #[.int .i64 s.rev, .slice aj s.jobs.length cj, .slice an s.nodes.length cn, .slice al s.leases.length cl] 30)).alloc (.cells #[.int .i64 0, .slice none 0 0, .slice none 0 0, .slice none 0 0] 30) = W0 := ⟨_, rfl⟩
      obtain ⟨p0, r0, B0, sz0⟩ := two_new w _ _ _ _ _ W0 hW0
      have HC := rcheck_any s.rev aj an al cj cn cl s.jobs s.nodes s.leases W0 (jobsAt_next hmj B0) (nodesAt_next hmn B0) (leasesAt_next hml B0)
      rw [show (⟨s.rev, s.jobs, s.nodes, s.leases⟩ : StD) = s from rfl, hc0] at HC
      have HC := Lib.hid HC
      have c0 := objAt_cell p0 0 rfl
      have c1 := objAt_cell p0 1 rfl
      have c2 := objAt_cell p0 2 rfl
      have c3 := objAt_cell p0 3 rfl
      have P0 := Lib.hid (And.intro r0 B0)
      clear hr hc hc0 hin hb p0 r0 B0 sz0 hmj hmn hml
      go_enter Tryz.func8, Tryz.ntmps8
      go_wp2_with fail
      refine HC.out.mono ?_
      rintro e w1 ⟨rfl, b1⟩
      go_wp2_with fail
      refine (HO.out _).mono ?_
      rintro e w' ⟨rfl, rfl⟩
      obtain ⟨r0, B0⟩ := P0.out
      have r1 := objAt_next r0 b1
      have B1 := below_trans B0 b1 B0.size
      have f0 := objAt_free r1 0
      have f1 := objAt_free r1 1
      have f2 := objAt_free r1 2
      have f3 := objAt_free r1 3
      have m0 := objAt_cell r1 0 rfl
      have m1 := objAt_cell r1 1 rfl
      have m2 := objAt_cell r1 2 rfl
      have m3 := objAt_cell r1 3 rfl
      have oF := obj_put4 r1 (.int .i64 0) (.slice none 0 0) (.slice none 0 0) (.slice none 0 0)
      have BF := Lib.hid (below_put4 B1 (b := w.heap.size + 1) (by omega) (.int .i64 0) (.slice none 0 0) (.slice none 0 0) (.slice none 0 0))
      have t0 := objAt_cell oF 0 rfl
      have t1 := objAt_cell oF 1 rfl
      have t2 := objAt_cell oF 2 rfl
      have t3 := objAt_cell oF 3 rfl
      have TT := Lib.hid (And.intro t0 (And.intro t1 (And.intro t2 t3)))
      clear oF t0 t1 t2 t3 r0 B0 r1 B1 b1
      go_wp2
      obtain ⟨t0, t1, t2, t3⟩ := TT.out
      exact bodyPost_ret (v := .tuple #[.agg #[.int .i64 0, .slice none 0 0, .slice none 0 0, .slice none 0 0], .bool false, .int .i64 1]) (by simp [results, Tryz.results8, go_sem, t0, t1, t2, t3]) rfl ⟨none, none, none, 0, 0, 0, false, rfl, ⟨fun h => (by cases h), fun h => (by have := h.1; omega)⟩, ownS_zero _ _, BF.out⟩
theorem dnR_size (s : StD) (b : Int) (h : s.jobs.length ≤ 140737488355328 ∧ s.nodes.length ≤ 140737488355328 ∧ s.leases.length ≤ 140737488355328) : (dnR s b).1.jobs.length ≤ 140737488355328 ∧ (dnR s b).1.nodes.length ≤ 140737488355328 ∧ (dnR s b).1.leases.length ≤ 140737488355328 := by
  have hz : zeroSt.jobs.length ≤ 140737488355328 ∧ zeroSt.nodes.length ≤ 140737488355328 ∧ zeroSt.leases.length ≤ 140737488355328 := by decide
  unfold dnR
  split
  · exact hz
  · split
    · have l := dn_lens b s
      simp only
      rw [l.1, l.2.1, l.2.2]; exact h
    · exact hz
end Go.Proofs.YtclopkpfeofjmaaGreatDoor
