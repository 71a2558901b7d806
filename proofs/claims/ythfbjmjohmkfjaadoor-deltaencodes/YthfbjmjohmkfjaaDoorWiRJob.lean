/- The reference's bytes of a job: brackenref.jobBytes. -/
import Derived.Test.YthfbjmjohmkfjaaDoorWiREnc
namespace Go.Proofs.YthfbjmjohmkfjaaDoor
open Go.RowKit

set_option maxRecDepth 100000 in
set_option maxHeartbeats 8000000 in
theorem jobBytes_is (x : JobD) (v : Int) (h : okJob V8 v x) (w : World) :
    Calls Tryd.prog 63 #[.agg #[.string x.name, .int .i64 x.prio, .int .i64 x.need, .int .i64 x.tries, .string x.tag], .int .i64 v] w fun e w' => e = .returned (.string (ba (jobB v x))) ∧ Below w.heap.size w w' := by
  obtain ⟨h1, h2, h3, h4, h5⟩ := h
  have H1 := Lib.hid (rtextB_is x.name h1)
  have H3 := Lib.hid (rnumB_is x.need h3)
  obtain ⟨z, hz1, hz2, hz3⟩ := rzigB_is x.prio h2
  have HZ := rzig_any x.prio
  rw [hz1] at HZ
  have HZ := Lib.hid (fun w' => HZ w' (zag_in h2))
  have HN := Lib.hid (rnumber_is z hz3)
  rw [← hz2] at HN
  have l1 := text_len h1
  have l2 := zig_len h2
  have l3 := int_len h3
  rw [← ba_size] at l1 l2 l3
  have eR : ba (jobB v x) = ba (textE x.name) ++ ba (zigE x.prio) ++ ba (intE x.need) ++ ba (if decide (1 < v) then intE x.tries else []) ++ ba (if decide (2 < v) then textE x.tag else []) := by
    rw [ba_app, ba_app, ba_app, ba_app]; unfold jobB; simp only [List.append_assoc]
  rw [eR]
  generalize ba (textE x.name) = P at H1 l1 ⊢
  generalize ba (zigE x.prio) = Q at HN l2 ⊢
  generalize ba (intE x.need) = R at H3 l3 ⊢
  obtain ⟨PQ, hPQ⟩ : ∃ PQ, P ++ Q = PQ := ⟨_, rfl⟩
  have lPQ : PQ.size = P.size + Q.size := by rw [← hPQ, ByteArray.size_append]
  obtain ⟨PR, hPR⟩ : ∃ PR, PQ ++ R = PR := ⟨_, rfl⟩
  have lPR : PR.size = PQ.size + R.size := by rw [← hPR, ByteArray.size_append]
  rw [hPQ, hPR]
  have a1 : ¬ (9223372036854775807 < P.size + Q.size) := by omega
  have a2 : ¬ (9223372036854775807 < PQ.size + R.size) := by omega
  have LR : Hid (PR.size ≤ 37) := by show _ ≤ _; omega
  have q := box_new5 w (.string x.name) (.int .i64 x.prio) (.int .i64 x.need) (.int .i64 x.tries) (.string x.tag) 55
  have bW := below_one w (.cells #[.string x.name, .int .i64 x.prio, .int .i64 x.need, .int .i64 x.tries, .string x.tag] 55)
  have HX : Hid ((v ≤ 1 ∧ (if decide (1 < v) then intE x.tries else []) = [] ∧ (if decide (2 < v) then textE x.tag else []) = []) ∨ (1 < v ∧ v ≤ 2 ∧ (0 ≤ x.tries ∧ x.tries ≤ 4611686018427387904) ∧ (if decide (1 < v) then intE x.tries else []) = intE x.tries ∧ (if decide (2 < v) then textE x.tag else []) = []) ∨
      (1 < v ∧ 2 < v ∧ (0 ≤ x.tries ∧ x.tries ≤ 4611686018427387904) ∧ isNote V8 x.tag = true ∧ (if decide (1 < v) then intE x.tries else []) = intE x.tries ∧ (if decide (2 < v) then textE x.tag else []) = textE x.tag)) := by
    by_cases hv : 1 < v
    · right
      have hd : decide (1 < v) = true := by simpa using hv
      rw [hd] at h4 ⊢
      simp only [if_true] at h4 ⊢
      by_cases hv2 : 2 < v
      · right
        have hd2 : decide (2 < v) = true := by simpa using hv2
        rw [hd2] at h5 ⊢
        simp only [if_true] at h5 ⊢
        exact ⟨hv, hv2, h4, h5, trivial, trivial⟩
      · left
        have hd2 : decide (2 < v) = false := by simpa using hv2
        rw [hd2]
        exact ⟨hv, by omega, h4, trivial, by simp⟩
    · left
      have hd : decide (1 < v) = false := by simpa using hv
      have hd2 : decide (2 < v) = false := by simp; omega
      rw [hd, hd2]
      exact ⟨by omega, by simp, by simp⟩
  clear h1 h2 h3 h4 h5 eR hz1 hz2 lPQ lPR
  generalize (if decide (1 < v) then intE x.tries else []) = yy at HX ⊢
  generalize (if decide (2 < v) then textE x.tag else []) = zz at HX ⊢
  go_enter Tryd.func63, Tryd.ntmps63
  go_wp2_with fail
  generalize w.alloc (.cells #[.string x.name, .int .i64 x.prio, .int .i64 x.need, .int .i64 x.tries, .string x.tag] 55) = W at q bW ⊢
  have o1 : (W.cell? ⟨w.heap.size, 0, none⟩ = some (.string x.name) ∧ W.cell? ⟨w.heap.size, 1, none⟩ = some (.int .i64 x.prio) ∧ W.cell? ⟨w.heap.size, 2, none⟩ = some (.int .i64 x.need) ∧ W.cell? ⟨w.heap.size, 3, none⟩ = some (.int .i64 x.tries) ∧ W.cell? ⟨w.heap.size, 4, none⟩ = some (.string x.tag)) ∧ w.heap.size < W.heap.size ∧ Below W.heap.size W W := ⟨⟨q.1 0 _ rfl, q.1 1 _ rfl, q.1 2 _ rfl, q.1 3 _ rfl, q.1 4 _ rfl⟩, q.2, Below.refl _ _⟩
  have BW := Lib.hid bW
  clear q bW
  go_cut [5] from 6 (fun sv wc => sv = .string PR ∧ (wc.cell? ⟨w.heap.size, 0, none⟩ = some (.string x.name) ∧ wc.cell? ⟨w.heap.size, 1, none⟩ = some (.int .i64 x.prio) ∧ wc.cell? ⟨w.heap.size, 2, none⟩ = some (.int .i64 x.need) ∧ wc.cell? ⟨w.heap.size, 3, none⟩ = some (.int .i64 x.tries) ∧ wc.cell? ⟨w.heap.size, 4, none⟩ = some (.string x.tag)) ∧ w.heap.size < wc.heap.size ∧ Below W.heap.size W wc)
  case first =>
    go_region_held3 (fun w' => (w'.cell? ⟨w.heap.size, 0, none⟩ = some (.string x.name) ∧ w'.cell? ⟨w.heap.size, 1, none⟩ = some (.int .i64 x.prio) ∧ w'.cell? ⟨w.heap.size, 2, none⟩ = some (.int .i64 x.need) ∧ w'.cell? ⟨w.heap.size, 3, none⟩ = some (.int .i64 x.tries) ∧ w'.cell? ⟨w.heap.size, 4, none⟩ = some (.string x.tag)) ∧ w.heap.size < w'.heap.size ∧ Below W.heap.size W w')
      (first | assumption | exact ⟨o1.1, o1.2.1, o1.2.2.drew⟩)
      (first
        | (go_at_call 17; (with_reducible refine (H1.out _).mono ?_); rintro e x1 ⟨rfl, c1⟩; have s1 := held5 (W := W) c1 (by assumption))
        | (go_at_call 98; (with_reducible refine (HZ.out _).mono ?_); rintro e x2 ⟨rfl, rfl⟩)
        | (go_at_call 62; (with_reducible refine (HN.out _).mono ?_); rintro e x2 ⟨rfl, c2⟩; have s2 := held5 (W := W) c2 (by assumption))
        | (go_at_call 15; (with_reducible refine (H3.out _).mono ?_); rintro e x3 ⟨rfl, c3⟩; have s3 := held5 (W := W) c3 (by assumption)))
    all_goals
      rename_i s9
      go_wp2_with fail
      go_meet
      case rel => exact ⟨rfl, s9⟩
  case rest =>
    obtain ⟨rfl, hs⟩ := hcut
    have hb9 := below_trans BW.out hs.2.2 BW.out.size
    have c3 := hs.1.2.2.2.1
    have c4 := hs.1.2.2.2.2
    have hlt := hs.2.1
    have HS := Lib.hid hs
    clear hs o1 H1 H3 HZ HN
    have nilr : ∀ Z : ByteArray, Z ++ ba [] = Z := fun Z => bytes_eq (by rw [app_data]; show _ ++ [] = _; rw [List.append_nil])
    rcases HX.out with ⟨hv, rfl, rfl⟩ | ⟨hv, hv2, ht, rfl, rfl⟩ | ⟨hv, hv2, ht, hn, rfl, rfl⟩
    · have hv2 : v ≤ 2 := by omega
      have HZ := Lib.hid (show PR ++ ba [] ++ ba [] = PR by rw [nilr, nilr])
      clear nilr
      go_wp2
      go_ret
      exact ⟨by rw [HZ.out]; rfl, hb9⟩
    · have H4 := Lib.hid (rnumB_is x.tries ht)
      have l4 := int_len ht
      rw [← ba_size] at l4
      obtain ⟨Y, hY⟩ : ∃ Y, ba (intE x.tries) = Y := ⟨_, rfl⟩
      rw [hY] at H4 l4
      have HY := Lib.hid hY
      clear hY
      obtain ⟨Z, hZ⟩ : ∃ Z, PR ++ Y = Z := ⟨_, rfl⟩
      have a3 : ¬ (9223372036854775807 < PR.size + Y.size) := by have := LR.out; omega
      have HZ := Lib.hid (show Z ++ ba [] = Z from nilr Z)
      clear nilr
      go_wp2_with fail
      refine (H4.out _).mono ?_
      rintro e y ⟨rfl, c5⟩
      go_wp2
      go_ret
      exact ⟨by rw [HY.out, hZ, HZ.out]; rfl, below_trans hb9 c5 hb9.size⟩
    · have H4 := Lib.hid (rnumB_is x.tries ht)
      have l4 := int_len ht
      have H5 := Lib.hid (rtextB_is x.tag hn)
      have l5 := text_len hn
      rw [← ba_size] at l4 l5
      obtain ⟨Y, hY⟩ : ∃ Y, ba (intE x.tries) = Y := ⟨_, rfl⟩
      rw [hY] at H4 l4
      have HY := Lib.hid hY
      clear hY
      obtain ⟨U, hU⟩ : ∃ U, ba (textE x.tag) = U := ⟨_, rfl⟩
      rw [hU] at H5 l5
      have HU := Lib.hid hU
      clear hU
      obtain ⟨Z, hZ⟩ : ∃ Z, PR ++ Y = Z := ⟨_, rfl⟩
      obtain ⟨ZU, hZU⟩ : ∃ ZU, Z ++ U = ZU := ⟨_, rfl⟩
      have lZ : Z.size = PR.size + Y.size := by rw [← hZ, ByteArray.size_append]
      have a3 : ¬ (9223372036854775807 < PR.size + Y.size) := by have := LR.out; omega
      have a4 : ¬ (9223372036854775807 < Z.size + U.size) := by have := LR.out; omega
      clear nilr lZ
      go_wp2_with fail
      refine (H4.out _).mono ?_
      rintro e y ⟨rfl, c5⟩
      have s9 := held5 (W := W) c5 HS.out
      have d4 := s9.1.2.2.2.2
      have hb10 := below_trans hb9 c5 hb9.size
      clear s9 c3 c4 H4
      go_wp2_with fail
      refine (H5.out _).mono ?_
      rintro e y2 ⟨rfl, c6⟩
      go_wp2
      go_ret
      exact ⟨by rw [HY.out, HU.out, hZ, hZU]; rfl, below_trans hb10 c6 hb10.size⟩
end Go.Proofs.YthfbjmjohmkfjaaDoor
