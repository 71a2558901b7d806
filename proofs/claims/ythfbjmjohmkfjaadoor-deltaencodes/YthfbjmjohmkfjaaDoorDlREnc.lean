/- The reference's DeltaEncode at every delta. -/
import Derived.Test.YthfbjmjohmkfjaaDoorDlRCheck
import Derived.Test.YthfbjmjohmkfjaaDoorDlHeld
import Derived.Test.YthfbjmjohmkfjaaDoorWiRRows
import Derived.Test.YthfbjmjohmkfjaaDoorPkDl3
import Derived.Deep.RegionHeld3
namespace Go.Proofs.YthfbjmjohmkfjaaDoor
open Go.RowKit

theorem nms_small {xs : List ByteArray} (i : Nat) (hl : xs.length ≤ 40) (h : ∀ x ∈ xs, isNote V8 x = true) : ((xs.take i).flatMap textE).length ≤ 2560 :=
  flat_small (f := textE) (xs := xs) i hl (fun x hx => by
    have := (lim_txt (h x hx) ⟨false, [], ⟨#[]⟩, 0⟩).1
    rw [wrt_txt x _ rfl] at this
    simp only [List.nil_append, List.length_nil] at this
    omega)
theorem rows_small {d : DelD} (h3 : d.jobs.length ≤ 40 ∧ ∀ x ∈ d.jobs, okJob V8 3 x) (h4 : d.nodes.length ≤ 20 ∧ ∀ x ∈ d.nodes, okNode V8 3 x) (h5 : d.leases.length ≤ 40 ∧ ∀ x ∈ d.leases, okLease V8 x) : (rowsE' (jobB 3) d.jobs ++ (rowsE' (nodeB 3) d.nodes ++ rowsE' leaseB d.leases)).length ≤ 9000 := by
  have a1 := flat_small (f := jobB 3) (xs := d.jobs) d.jobs.length h3.1 (fun x hx => job_small (h3.2 x hx))
  have a2 := flat_small (f := nodeB 3) (xs := d.nodes) d.nodes.length (by omega) (fun x hx => node_small (h4.2 x hx))
  have a3 := flat_small (f := leaseB) (xs := d.leases) d.leases.length h5.1 (fun x hx => lease_small (h5.2 x hx))
  rw [List.take_length] at a1 a2 a3
  have n1 := (lenB d.jobs.length h3.1).2
  have n2 := (lenB d.nodes.length (by omega)).2
  have n3 := (lenB d.leases.length h5.1).2
  simp only [rowsE', List.length_append]
  omega
/-- How far the bytes have come when k lists of names are done. -/
def encL8 (d : DelD) (k : Nat) : List UInt8 := (intE d.frm ++ intE (d.til - d.frm) ++ (rowsE' (jobB 3) d.jobs ++ (rowsE' (nodeB 3) d.nodes ++ rowsE' leaseB d.leases))) ++ ((if 0 < k then rowsE' textE d.gj else []) ++ ((if 1 < k then rowsE' textE d.gn else []) ++ (if 2 < k then rowsE' textE d.gl else [])))
theorem encL8_all (d : DelD) : encL8 d 3 = delB d := by unfold encL8 delB; simp [List.append_assoc]
theorem encL8_len {d : DelD} (h : okDel V8 d) (k : Nat) : (encL8 d k).length ≤ 20000 := by
  obtain ⟨h1, h2, h3, h4, h5, h6, h7, h8⟩ := h
  have r := rows_small h3 h4 h5
  have a1 := nms_small d.gj.length h6.1 h6.2
  have a2 := nms_small d.gn.length (by omega) h7.2
  have a3 := nms_small d.gl.length h8.1 h8.2
  rw [List.take_length] at a1 a2 a3
  have n1 := (lenB d.gj.length h6.1).2
  have n2 := (lenB d.gn.length (by omega)).2
  have n3 := (lenB d.gl.length h8.1).2
  have i1 : (intE d.frm).length ≤ 10 := num_len10 (by omega)
  have i2 : (intE (d.til - d.frm)).length ≤ 10 := num_len10 (by omega)
  unfold encL8
  simp only [List.length_append] at r ⊢
  have b1 : (if 0 < k then rowsE' textE d.gj else []).length ≤ 2570 := by
    split
    · simp only [rowsE', List.length_append]; omega
    · exact Nat.zero_le _
  have b2 : (if 1 < k then rowsE' textE d.gn else []).length ≤ 2570 := by
    split
    · simp only [rowsE', List.length_append]; omega
    · exact Nat.zero_le _
  have b3 : (if 2 < k then rowsE' textE d.gl else []).length ≤ 2570 := by
    split
    · simp only [rowsE', List.length_append]; omega
    · exact Nat.zero_le _
  omega
theorem encL8_0 (d : DelD) : encL8 d (0 + 1) = encL8 d 0 ++ (num d.gj.length ++ d.gj.flatMap textE) := by unfold encL8; simp [rowsE']
theorem encL8_1 (d : DelD) : encL8 d (1 + 1) = encL8 d 1 ++ (num d.gn.length ++ d.gn.flatMap textE) := by unfold encL8; simp [rowsE', List.append_assoc]
theorem encL8_2 (d : DelD) : encL8 d (2 + 1) = encL8 d 2 ++ (num d.gl.length ++ d.gl.flatMap textE) := by unfold encL8; simp [rowsE', List.append_assoc]
/-- The list of the three lists of names. -/
def GoneAt (Gb : Nat) (M : DlM) (d : DelD) (w : World) : Prop := ObjAt Gb #[.slice M.gj d.gj.length M.hj, .slice M.gn d.gn.length M.hn, .slice M.gl d.gl.length M.hl] 25 w
set_option maxRecDepth 100000 in
set_option maxHeartbeats 16000000 in
theorem rdencode_any (d : DelD) (M : DlM) (w : World) (hm : DeltaAt w M d) :
    Calls Tryd.prog 6 #[.agg #[.int .i64 d.frm, .int .i64 d.til, .slice M.aj d.jobs.length M.cj, .slice M.an d.nodes.length M.cn, .slice M.al d.leases.length M.cl, .slice M.gj d.gj.length M.hj, .slice M.gn d.gn.length M.hn, .slice M.gl d.gl.length M.hl]] w fun e w' => e = .returned (.tuple #[.string (ba (dencR V8 d).1), .int .i64 ((dencR V8 d).2 : Nat)]) ∧ Below w.heap.size w w' := by
  have bW := below_one w (.cells #[.int .i64 d.frm, .int .i64 d.til, .slice M.aj d.jobs.length M.cj, .slice M.an d.nodes.length M.cn, .slice M.al d.leases.length M.cl, .slice M.gj d.gj.length M.hj, .slice M.gn d.gn.length M.hn, .slice M.gl d.gl.length M.hl] 27)
  have oB := objAt_new w #[.int .i64 d.frm, .int .i64 d.til, .slice M.aj d.jobs.length M.cj, .slice M.an d.nodes.length M.cn, .slice M.al d.leases.length M.cl, .slice M.gj d.gj.length M.hj, .slice M.gn d.gn.length M.hn, .slice M.gl d.gl.length M.hl] 27
  obtain ⟨W, hW⟩ : ∃ W, w.alloc (.cells #[.int .i64 d.frm, .int .i64 d.til, .slice M.aj d.jobs.length M.cj, .slice M.an d.nodes.length M.cn, .slice M.al d.leases.length M.cl, .slice M.gj d.gj.length M.hj, .slice M.gn d.gn.length M.hn, .slice M.gl d.gl.length M.hl] 27) = W := ⟨_, rfl⟩
  rw [hW] at bW oB
  have hsW : W.heap.size = w.heap.size + 1 := by rw [← hW, World.size_alloc]
  obtain ⟨H, hH⟩ : ∃ H, w.heap.size = H := ⟨_, rfl⟩
  rw [hH] at oB bW hsW ⊢
  have HC := rdcheck_any M d W (deltaAt_next hm (by rw [hH]; exact bW))
  obtain ⟨c, hc⟩ : ∃ c, dcheckE V8 d = c := ⟨_, rfl⟩
  rw [hc] at HC
  have HC : Hid (Calls Tryd.prog 14 #[.agg #[.int .i64 d.frm, .int .i64 d.til, .slice M.aj d.jobs.length M.cj, .slice M.an d.nodes.length M.cn, .slice M.al d.leases.length M.cl, .slice M.gj d.gj.length M.hj, .slice M.gn d.gn.length M.hn, .slice M.gl d.gl.length M.hl]] W fun e w' => e = .returned (.int .i64 (c : Nat)) ∧ Below W.heap.size W w') := Lib.hid HC
  have b0 := objAt_cell oB 0 rfl
  have b1 := objAt_cell oB 1 rfl
  have b2 := objAt_cell oB 2 rfl
  have b3 := objAt_cell oB 3 rfl
  have b4 := objAt_cell oB 4 rfl
  have b5 := objAt_cell oB 5 rfl
  have b6 := objAt_cell oB 6 rfl
  have b7 := objAt_cell oB 7 rfl
  have bl := objAt_lt oB
  have OB := Lib.hid oB
  have BW := Lib.hid bW
  have HMM := Lib.hid hm
  have HW := Lib.hid hW
  have HH := Lib.hid hH
  clear oB bW hW hm
  by_cases h0 : c ≠ 0
  · have hr : dencR V8 d = ([], c) := by unfold dencR; rw [hc, if_pos h0]
    have h0' : ((c : Int) != 0) = true := by simp; omega
    rw [hr]
    clear hr h0 hc
    go_enter Tryd.func6, Tryd.ntmps6
    go_wp2_with fail
    rw [HW.out]
    refine HC.out.mono ?_
    rintro e w1 ⟨rfl, x1⟩
    have BF := Lib.hid (below_trans BW.out x1 (by omega))
    clear x1 HC
    go_wp2
    go_ret2
    exact ⟨rfl, BF.out⟩
  · have h0 : c = 0 := by simpa using h0
    subst h0
    have hok := ok_del V8 ((dcheck_zero V8 d).1 hc)
    have hdr : dencR V8 d = if 6000 < (delB d).length then ([], 2) else (delB d, 0) := by unfold dencR; rw [if_neg (by simp [hc])]
    rw [hdr]
    clear hdr
    obtain ⟨R, hR⟩ : ∃ R, (if 6000 < (delB d).length then (([] : List UInt8), 2) else (delB d, 0)) = R := ⟨_, rfl⟩
    rw [hR]
    have HR := Lib.hid hR
    clear hR
    have htil : d.til ≤ 9223372036854775807 := by have := ((dcheck_zero V8 d).1 hc).1; omega
    obtain ⟨h1, h2, h3, h4, h5, h6, h7, h8⟩ := id hok
    have u1 : IntKind.i64.wrap (d.til - d.frm) = d.til - d.frm := IntWalk.i64_in _ (by omega)
    have HN0 := Lib.hid (rnumB_is d.frm h1)
    have HN1 := Lib.hid (rnumB_is (d.til - d.frm) h2)
    have HRB := Lib.hid (fun (V : World) (hb : Below H w V) => rowsBytes_is ⟨0, d.jobs, d.nodes, d.leases⟩ M.aj M.an M.al M.cj M.cn M.cl 3 h3 h4 h5 V (deltaAt_next HMM.out (by rw [hH]; exact hb)).1.1 (deltaAt_next HMM.out (by rw [hH]; exact hb)).1.2.1 (deltaAt_next HMM.out (by rw [hH]; exact hb)).1.2.2)
    have q1 := ba_size (intE d.frm)
    have q2 := ba_size (intE (d.til - d.frm))
    have q3 := ba_size (rowsE' (jobB 3) d.jobs ++ (rowsE' (nodeB 3) d.nodes ++ rowsE' leaseB d.leases))
    have i1 : (intE d.frm).length ≤ 10 := num_len10 (by omega)
    have i2 : (intE (d.til - d.frm)).length ≤ 10 := num_len10 (by omega)
    have i3 := rows_small h3 h4 h5
    have e1 : ba (intE d.frm) ++ ba (intE (d.til - d.frm)) ++ ba (rowsE' (jobB 3) d.jobs ++ (rowsE' (nodeB 3) d.nodes ++ rowsE' leaseB d.leases)) = ba (encL8 d 0) := by rw [ba_app, ba_app]; unfold encL8; simp
    obtain ⟨n0, hn0⟩ : ∃ n, ba (intE d.frm) = n := ⟨_, rfl⟩
    obtain ⟨n1, hn1⟩ : ∃ n, ba (intE (d.til - d.frm)) = n := ⟨_, rfl⟩
    obtain ⟨z0, hz0⟩ : ∃ n, ba (rowsE' (jobB 3) d.jobs ++ (rowsE' (nodeB 3) d.nodes ++ rowsE' leaseB d.leases)) = n := ⟨_, rfl⟩
    obtain ⟨S0, hS0⟩ : ∃ n, ba (encL8 d 0) = n := ⟨_, rfl⟩
    obtain ⟨p0, hp0⟩ : ∃ n, n0 ++ n1 = n := ⟨_, rfl⟩
    simp only [hn0] at HN0 e1 q1
    simp only [hn1] at HN1 e1 q2
    simp only [hz0] at HRB e1 q3
    rw [hS0, hp0] at e1
    have q4 : p0.size = n0.size + n1.size := by rw [← hp0, ByteArray.size_append]
    have a1 : ¬ (9223372036854775807 < n0.size + n1.size) := by omega
    have a2 : ¬ (9223372036854775807 < p0.size + z0.size) := by omega
    have NG : Hid (∀ k, (encL8 d k).length ≤ 20000) := fun k => encL8_len hok k
    have H6 := Lib.hid h6
    have H7 := Lib.hid h7
    have H8 := Lib.hid h8
    have HS0 := Lib.hid hS0
    have hl6 := h6.1
    have hl7 := h7.1
    have hl8 := h8.1
    clear q1 q2 q3 q4 i1 i2 i3 hn0 hn1 hz0 hS0 h1 h2 h3 h4 h5 h6 h7 h8 hok hc htil
    go_enter Tryd.func6, Tryd.ntmps6
    go_wp2_with fail
    rw [HW.out]
    refine HC.out.mono ?_
    rintro e w1 ⟨rfl, x1⟩
    have hB1 := below_trans BW.out x1 (by omega)
    have oB1 := objAt_next OB.out x1
    have o1 := dlH_all (M := M) (d := d) (w := w1.drew) (objAt_drew oB1) hB1.drew
    clear b0 b1 b2 b3 b4 b5 b6 b7 bl x1 HC hB1 oB1
    go_wp2_with fail
    go_cut [5] from 10 (fun sv wc => sv = .string S0 ∧ ObjAt H (dlC M d) 27 wc ∧ Below H w wc)
    case first =>
      go_region_held3 (fun w' => (w'.cell? ⟨H, 0, none⟩ = some (.int .i64 d.frm) ∧ w'.cell? ⟨H, 1, none⟩ = some (.int .i64 d.til) ∧ w'.cell? ⟨H, 2, none⟩ = some (.slice M.aj d.jobs.length M.cj) ∧ w'.cell? ⟨H, 3, none⟩ = some (.slice M.an d.nodes.length M.cn) ∧ w'.cell? ⟨H, 4, none⟩ = some (.slice M.al d.leases.length M.cl) ∧ w'.cell? ⟨H, 5, none⟩ = some (.slice M.gj d.gj.length M.hj) ∧ w'.cell? ⟨H, 6, none⟩ = some (.slice M.gn d.gn.length M.hn) ∧ w'.cell? ⟨H, 7, none⟩ = some (.slice M.gl d.gl.length M.hl)) ∧ ObjAt H (dlC M d) 27 w' ∧ Below H w w')
        (first | assumption | exact o1)
        (first
          | (go_at_call 15; (with_reducible refine (HN0.out _).mono ?_); rintro e w2 ⟨rfl, b2⟩; have o2 := dlH_call b2 (by assumption))
          | (go_at_call 15; (with_reducible refine (HN1.out _).mono ?_); rintro e w2 ⟨rfl, b2⟩; have o2 := dlH_call b2 (by assumption))
          | (go_at_call 16; refine (HRB.out _ (by first | exact (by assumption : _ ∧ _ ∧ _).2.2 | assumption)).mono ?_; rintro e w2 ⟨rfl, b2⟩; have o2 := dlH_call b2 (by assumption)))
      all_goals
        rename_i o2
        have oo := Lib.hid o2.2
        clear o2 o1
        go_wp2_with fail
        go_meet
        case rel => exact ⟨rfl, oo.out⟩
    case rest =>
      obtain ⟨rfl, oB0, bB⟩ := hcut
      have oB : ObjAt H #[.int .i64 d.frm, .int .i64 d.til, .slice M.aj d.jobs.length M.cj, .slice M.an d.nodes.length M.cn, .slice M.al d.leases.length M.cl, .slice M.gj d.gj.length M.hj, .slice M.gn d.gn.length M.hn, .slice M.gl d.gl.length M.hl] 27 wc := oB0
      clear oB0 o1 a1 a2 u1 e1 hp0 HN0 HN1 HRB
      have b0 := objAt_cell oB 0 rfl
      have b1 := objAt_cell oB 1 rfl
      have b2 := objAt_cell oB 2 rfl
      have b3 := objAt_cell oB 3 rfl
      have b4 := objAt_cell oB 4 rfl
      have b5 := objAt_cell oB 5 rfl
      have b6 := objAt_cell oB 6 rfl
      have b7 := objAt_cell oB 7 rfl
      have bl := objAt_lt oB
      obtain ⟨Gb, hGb⟩ : ∃ L, wc.heap.size = L := ⟨_, rfl⟩
      obtain ⟨V, hV⟩ : ∃ V, wc.alloc (.cells #[.slice M.gj d.gj.length M.hj, .slice M.gn d.gn.length M.hn, .slice M.gl d.gl.length M.hl] 25) = V := ⟨_, rfl⟩
      have bA := below_one wc (.cells #[.slice M.gj d.gj.length M.hj, .slice M.gn d.gn.length M.hn, .slice M.gl d.gl.length M.hl] 25)
      have oG := objAt_new wc #[.slice M.gj d.gj.length M.hj, .slice M.gn d.gn.length M.hn, .slice M.gl d.gl.length M.hl] 25
      rw [hV] at bA oG
      rw [hGb] at oG
      have hHl : H ≤ wc.heap.size := by omega
      have bV := below_trans bB bA hHl
      have OG := Lib.hid (show GoneAt Gb M d V from oG)
      have BV := Lib.hid bV
      have hsV : H ≤ V.heap.size := by have := bA.size; omega
      have gl := objAt_lt oG
      clear oB bB bA oG bV
      go_wp2
      clear b0 b1 b2 b3 b4 b5 b6 b7 bl
      go_loopw [5, 41] (fun sv iv wr => ∃ (k : Nat), iv = .int .i64 (k : Int) ∧ k ≤ 3 ∧ (∃ S, sv = .string S ∧ Hid (ba (encL8 d k) = S)) ∧ Below V.heap.size V wr) (fun _ iv _ => 3 - (intOf iv).toNat)
      case atStart => exact ⟨0, rfl, by omega, ⟨_, rfl, HS0⟩, Below.refl _ _⟩
      case round =>
        obtain ⟨k, rfl, hk, ⟨S, rfl, HS⟩, hbr⟩ := hrel
        by_cases h : (k : Int) < 3
        case pos =>
          have hk3 : k = 0 ∨ k = 1 ∨ k = 2 := by omega
          rcases hk3 with rfl | rfl | rfl
          · have oG := objAt_next OG.out hbr
            have g0 := objAt_cell oG 0 rfl
            have g1 := objAt_cell oG 1 rfl
            have g2 := objAt_cell oG 2 rfl
            have glt := objAt_lt oG
            obtain ⟨Ad, hAd⟩ : ∃ A, M.gj = A := ⟨_, rfl⟩
            rw [hAd] at g0
            have HAd := Lib.hid hAd
            clear hAd
            have HLn := rnumB_is (d.gj.length : Int) (by omega)
            rw [(lenB d.gj.length (by omega)).1] at HLn
            have q1 := ba_size (encL8 d 0)
            have q2 := ba_size (num d.gj.length)
            have q3 := (lenB d.gj.length (by omega)).2
            have q4 := NG.out 0
            rw [HS.out] at q1
            obtain ⟨N, hN⟩ : ∃ N, ba (num d.gj.length) = N := ⟨_, rfl⟩
            rw [hN] at HLn q2
            have HLn := Lib.hid HLn
            obtain ⟨P, hP⟩ : ∃ P, S ++ N = P := ⟨_, rfl⟩
            have ad1 : ¬ (9223372036854775807 < S.size + N.size) := by omega
            have HP : Hid (ba (encL8 d 0 ++ num d.gj.length) = P) := by show _ = _; rw [← ba_app, HS.out, hN, hP]
            have HN := Lib.hid hN
            have e41 : ((0 : Nat) : Int) = 0 := rfl
            clear q1 q2 q3 q4 hN oG
            go_wp2_with fail
            refine (HLn.out _).mono ?_
            rintro e w3 ⟨rfl, b3⟩
            have hb3 := below_trans hbr b3 hbr.size
            have HB3 := Lib.hid hb3
            clear g0 g1 g2 glt b3 HLn hbr
            go_wp2
            go_loopw [5, 52] (fun sv iv wr => ∃ (i : Nat), iv = .int .i64 (i : Int) ∧ i ≤ d.gj.length ∧ (∃ S, sv = .string S ∧ Hid (ba (encL8 d 0 ++ (num d.gj.length ++ (d.gj.take i).flatMap textE)) = S)) ∧ Below V.heap.size V wr) (fun _ iv _ => d.gj.length - (intOf iv).toNat)
            case atStart => exact ⟨0, rfl, Nat.zero_le _, ⟨_, rfl, by show _ = _; rw [← HP.out]; simp⟩, HB3.out⟩
            case round =>
              clear hb3
              obtain ⟨i, rfl, hi, ⟨S2, rfl, HS2⟩, hbi⟩ := hrel
              by_cases h2 : (i : Int) < (d.gj.length : Int)
              case pos =>
                have hil : i < d.gj.length := by omega
                have BI := below_trans BV.out hbi hsV
                have hnm := (deltaAt_next HMM.out (show Below w.heap.size w wr by rw [HH.out]; exact below_trans BV.out hbi hsV)).2.1
                rw [HAd.out] at hnm
                obtain ⟨a, rfl, hal, k0⟩ := hnm i hil
                obtain ⟨x, hxi⟩ : ∃ x, d.gj[i] = x := ⟨_, rfl⟩
                have hst := flat_step textE d.gj i hil
                have hsm := nms_small (i + 1) (show d.gj.length ≤ 40 by omega) H6.out.2
                have hokx := H6.out.2 d.gj[i] (List.getElem_mem _)
                rw [hxi] at hst hokx k0
                have HJ := Lib.hid (rtextB_is x hokx)
                have q1 := ba_size (encL8 d 0 ++ (num d.gj.length ++ (d.gj.take i).flatMap textE))
                have q2 := ba_size (textE x)
                have q4 := NG.out 0
                have q3 := (lenB d.gj.length (by omega)).2
                rw [hst, List.length_append] at hsm
                rw [List.length_append, List.length_append, HS2.out] at q1
                obtain ⟨N2, hN2⟩ : ∃ N, ba (textE x) = N := ⟨_, rfl⟩
                simp only [hN2] at HJ q2
                have ad2 : ¬ (9223372036854775807 < S2.size + N2.size) := by omega
                have HP2 : Hid (ba (encL8 d 0 ++ (num d.gj.length ++ (d.gj.take (i + 1)).flatMap textE)) = S2 ++ N2) := by show _ = _; rw [← HS2.out, ← hN2, ba_app, hst]; simp only [List.append_assoc]
                obtain ⟨P2, hP2⟩ : ∃ P, S2 ++ N2 = P := ⟨_, rfl⟩
                rw [hP2] at HP2
                have HBI := Lib.hid hbi
                clear q1 q2 q3 q4 hst hsm hokx hxi hN2 hnm hbi
                go_wp2_with fail
                refine (HJ.out _).mono ?_
                rintro e w4 ⟨rfl, b4⟩
                have hb4 := Lib.hid (below_trans HBI.out b4 HBI.out.size)
                clear b4 k0 hal HJ
                go_wp2
                go_roundw
                case rel => exact ⟨i + 1, by simp, by omega, ⟨_, rfl, HP2⟩, hb4.out⟩
                case measure => simp [intOf]; omega
              case neg =>
                obtain rfl : i = d.gj.length := by omega
                have HE : Hid (ba (encL8 d (0 + 1)) = S2) := by show _ = _; rw [encL8_0, ← HS2.out, List.take_length]
                have HBI := Lib.hid hbi
                clear hi h2 hbi
                go_wp2
                go_roundw
                case rel => exact ⟨0 + 1, by simp, by omega, ⟨_, rfl, HE⟩, HBI.out⟩
                case measure => simp [intOf]
          · have oG := objAt_next OG.out hbr
            have g0 := objAt_cell oG 0 rfl
            have g1 := objAt_cell oG 1 rfl
            have g2 := objAt_cell oG 2 rfl
            have glt := objAt_lt oG
            obtain ⟨Ad, hAd⟩ : ∃ A, M.gn = A := ⟨_, rfl⟩
            rw [hAd] at g1
            have HAd := Lib.hid hAd
            clear hAd
            have HLn := rnumB_is (d.gn.length : Int) (by omega)
            rw [(lenB d.gn.length (by omega)).1] at HLn
            have q1 := ba_size (encL8 d 1)
            have q2 := ba_size (num d.gn.length)
            have q3 := (lenB d.gn.length (by omega)).2
            have q4 := NG.out 1
            rw [HS.out] at q1
            obtain ⟨N, hN⟩ : ∃ N, ba (num d.gn.length) = N := ⟨_, rfl⟩
            rw [hN] at HLn q2
            have HLn := Lib.hid HLn
            obtain ⟨P, hP⟩ : ∃ P, S ++ N = P := ⟨_, rfl⟩
            have ad1 : ¬ (9223372036854775807 < S.size + N.size) := by omega
            have HP : Hid (ba (encL8 d 1 ++ num d.gn.length) = P) := by show _ = _; rw [← ba_app, HS.out, hN, hP]
            have HN := Lib.hid hN
            have e41 : ((1 : Nat) : Int) = 1 := rfl
            clear q1 q2 q3 q4 hN oG
            go_wp2_with fail
            refine (HLn.out _).mono ?_
            rintro e w3 ⟨rfl, b3⟩
            have hb3 := below_trans hbr b3 hbr.size
            have HB3 := Lib.hid hb3
            clear g0 g1 g2 glt b3 HLn hbr
            go_wp2
            go_loopw [5, 52] (fun sv iv wr => ∃ (i : Nat), iv = .int .i64 (i : Int) ∧ i ≤ d.gn.length ∧ (∃ S, sv = .string S ∧ Hid (ba (encL8 d 1 ++ (num d.gn.length ++ (d.gn.take i).flatMap textE)) = S)) ∧ Below V.heap.size V wr) (fun _ iv _ => d.gn.length - (intOf iv).toNat)
            case atStart => exact ⟨0, rfl, Nat.zero_le _, ⟨_, rfl, by show _ = _; rw [← HP.out]; simp⟩, HB3.out⟩
            case round =>
              clear hb3
              obtain ⟨i, rfl, hi, ⟨S2, rfl, HS2⟩, hbi⟩ := hrel
              by_cases h2 : (i : Int) < (d.gn.length : Int)
              case pos =>
                have hil : i < d.gn.length := by omega
                have BI := below_trans BV.out hbi hsV
                have hnm := (deltaAt_next HMM.out (show Below w.heap.size w wr by rw [HH.out]; exact below_trans BV.out hbi hsV)).2.2.1
                rw [HAd.out] at hnm
                obtain ⟨a, rfl, hal, k0⟩ := hnm i hil
                obtain ⟨x, hxi⟩ : ∃ x, d.gn[i] = x := ⟨_, rfl⟩
                have hst := flat_step textE d.gn i hil
                have hsm := nms_small (i + 1) (show d.gn.length ≤ 40 by omega) H7.out.2
                have hokx := H7.out.2 d.gn[i] (List.getElem_mem _)
                rw [hxi] at hst hokx k0
                have HJ := Lib.hid (rtextB_is x hokx)
                have q1 := ba_size (encL8 d 1 ++ (num d.gn.length ++ (d.gn.take i).flatMap textE))
                have q2 := ba_size (textE x)
                have q4 := NG.out 1
                have q3 := (lenB d.gn.length (by omega)).2
                rw [hst, List.length_append] at hsm
                rw [List.length_append, List.length_append, HS2.out] at q1
                obtain ⟨N2, hN2⟩ : ∃ N, ba (textE x) = N := ⟨_, rfl⟩
                simp only [hN2] at HJ q2
                have ad2 : ¬ (9223372036854775807 < S2.size + N2.size) := by omega
                have HP2 : Hid (ba (encL8 d 1 ++ (num d.gn.length ++ (d.gn.take (i + 1)).flatMap textE)) = S2 ++ N2) := by show _ = _; rw [← HS2.out, ← hN2, ba_app, hst]; simp only [List.append_assoc]
                obtain ⟨P2, hP2⟩ : ∃ P, S2 ++ N2 = P := ⟨_, rfl⟩
                rw [hP2] at HP2
                have HBI := Lib.hid hbi
                clear q1 q2 q3 q4 hst hsm hokx hxi hN2 hnm hbi
                go_wp2_with fail
                refine (HJ.out _).mono ?_
                rintro e w4 ⟨rfl, b4⟩
                have hb4 := Lib.hid (below_trans HBI.out b4 HBI.out.size)
                clear b4 k0 hal HJ
                go_wp2
                go_roundw
                case rel => exact ⟨i + 1, by simp, by omega, ⟨_, rfl, HP2⟩, hb4.out⟩
                case measure => simp [intOf]; omega
              case neg =>
                obtain rfl : i = d.gn.length := by omega
                have HE : Hid (ba (encL8 d (1 + 1)) = S2) := by show _ = _; rw [encL8_1, ← HS2.out, List.take_length]
                have HBI := Lib.hid hbi
                clear hi h2 hbi
                go_wp2
                go_roundw
                case rel => exact ⟨1 + 1, by simp, by omega, ⟨_, rfl, HE⟩, HBI.out⟩
                case measure => simp [intOf]
          · have oG := objAt_next OG.out hbr
            have g0 := objAt_cell oG 0 rfl
            have g1 := objAt_cell oG 1 rfl
            have g2 := objAt_cell oG 2 rfl
            have glt := objAt_lt oG
            obtain ⟨Ad, hAd⟩ : ∃ A, M.gl = A := ⟨_, rfl⟩
            rw [hAd] at g2
            have HAd := Lib.hid hAd
            clear hAd
            have HLn := rnumB_is (d.gl.length : Int) (by omega)
            rw [(lenB d.gl.length (by omega)).1] at HLn
            have q1 := ba_size (encL8 d 2)
            have q2 := ba_size (num d.gl.length)
            have q3 := (lenB d.gl.length (by omega)).2
            have q4 := NG.out 2
            rw [HS.out] at q1
            obtain ⟨N, hN⟩ : ∃ N, ba (num d.gl.length) = N := ⟨_, rfl⟩
            rw [hN] at HLn q2
            have HLn := Lib.hid HLn
            obtain ⟨P, hP⟩ : ∃ P, S ++ N = P := ⟨_, rfl⟩
            have ad1 : ¬ (9223372036854775807 < S.size + N.size) := by omega
            have HP : Hid (ba (encL8 d 2 ++ num d.gl.length) = P) := by show _ = _; rw [← ba_app, HS.out, hN, hP]
            have HN := Lib.hid hN
            have e41 : ((2 : Nat) : Int) = 2 := rfl
            clear q1 q2 q3 q4 hN oG
            go_wp2_with fail
            refine (HLn.out _).mono ?_
            rintro e w3 ⟨rfl, b3⟩
            have hb3 := below_trans hbr b3 hbr.size
            have HB3 := Lib.hid hb3
            clear g0 g1 g2 glt b3 HLn hbr
            go_wp2
            go_loopw [5, 52] (fun sv iv wr => ∃ (i : Nat), iv = .int .i64 (i : Int) ∧ i ≤ d.gl.length ∧ (∃ S, sv = .string S ∧ Hid (ba (encL8 d 2 ++ (num d.gl.length ++ (d.gl.take i).flatMap textE)) = S)) ∧ Below V.heap.size V wr) (fun _ iv _ => d.gl.length - (intOf iv).toNat)
            case atStart => exact ⟨0, rfl, Nat.zero_le _, ⟨_, rfl, by show _ = _; rw [← HP.out]; simp⟩, HB3.out⟩
            case round =>
              clear hb3
              obtain ⟨i, rfl, hi, ⟨S2, rfl, HS2⟩, hbi⟩ := hrel
              by_cases h2 : (i : Int) < (d.gl.length : Int)
              case pos =>
                have hil : i < d.gl.length := by omega
                have BI := below_trans BV.out hbi hsV
                have hnm := (deltaAt_next HMM.out (show Below w.heap.size w wr by rw [HH.out]; exact below_trans BV.out hbi hsV)).2.2.2
                rw [HAd.out] at hnm
                obtain ⟨a, rfl, hal, k0⟩ := hnm i hil
                obtain ⟨x, hxi⟩ : ∃ x, d.gl[i] = x := ⟨_, rfl⟩
                have hst := flat_step textE d.gl i hil
                have hsm := nms_small (i + 1) (show d.gl.length ≤ 40 by omega) H8.out.2
                have hokx := H8.out.2 d.gl[i] (List.getElem_mem _)
                rw [hxi] at hst hokx k0
                have HJ := Lib.hid (rtextB_is x hokx)
                have q1 := ba_size (encL8 d 2 ++ (num d.gl.length ++ (d.gl.take i).flatMap textE))
                have q2 := ba_size (textE x)
                have q4 := NG.out 2
                have q3 := (lenB d.gl.length (by omega)).2
                rw [hst, List.length_append] at hsm
                rw [List.length_append, List.length_append, HS2.out] at q1
                obtain ⟨N2, hN2⟩ : ∃ N, ba (textE x) = N := ⟨_, rfl⟩
                simp only [hN2] at HJ q2
                have ad2 : ¬ (9223372036854775807 < S2.size + N2.size) := by omega
                have HP2 : Hid (ba (encL8 d 2 ++ (num d.gl.length ++ (d.gl.take (i + 1)).flatMap textE)) = S2 ++ N2) := by show _ = _; rw [← HS2.out, ← hN2, ba_app, hst]; simp only [List.append_assoc]
                obtain ⟨P2, hP2⟩ : ∃ P, S2 ++ N2 = P := ⟨_, rfl⟩
                rw [hP2] at HP2
                have HBI := Lib.hid hbi
                clear q1 q2 q3 q4 hst hsm hokx hxi hN2 hnm hbi
                go_wp2_with fail
                refine (HJ.out _).mono ?_
                rintro e w4 ⟨rfl, b4⟩
                have hb4 := Lib.hid (below_trans HBI.out b4 HBI.out.size)
                clear b4 k0 hal HJ
                go_wp2
                go_roundw
                case rel => exact ⟨i + 1, by simp, by omega, ⟨_, rfl, HP2⟩, hb4.out⟩
                case measure => simp [intOf]; omega
              case neg =>
                obtain rfl : i = d.gl.length := by omega
                have HE : Hid (ba (encL8 d (2 + 1)) = S2) := by show _ = _; rw [encL8_2, ← HS2.out, List.take_length]
                have HBI := Lib.hid hbi
                clear hi h2 hbi
                go_wp2
                go_roundw
                case rel => exact ⟨2 + 1, by simp, by omega, ⟨_, rfl, HE⟩, HBI.out⟩
                case measure => simp [intOf]
        case neg =>
          obtain rfl : k = 3 := by omega
          have BF := Lib.hid (below_trans BV.out hbr hsV)
          have HE : Hid (ba (delB d) = S) := by show _ = _; rw [← encL8_all]; exact HS.out
          have hsz : S.size = (delB d).length := by rw [← HE.out]; exact ba_size _
          clear hbr hk h HS
          by_cases h6 : 6000 < (delB d).length
          · have h6' : (6000 : Int) < (S.size : Int) := by omega
            have HRR := Lib.hid (HR.out.symm.trans (if_pos h6))
            clear hsz h6
            go_wp2
            go_ret2
            exact ⟨by have h := HRR.out; subst h; rfl, BF.out⟩
          · have h6' : ¬ ((6000 : Int) < (S.size : Int)) := by omega
            have HRR := Lib.hid (HR.out.symm.trans (if_neg h6))
            clear hsz h6
            go_wp2
            go_ret2
            exact ⟨by have h := HRR.out; subst h; have z := HE.out; subst z; rfl, BF.out⟩
end Go.Proofs.YthfbjmjohmkfjaaDoor
