/- The reference's bytes of states: brackenref.text, num, jobBytes, nodeBytes, leaseBytes. -/
import Derived.Test.YtklpmhiaihabaaaPkWi5
import Derived.Test.YtklpmhiaihabaaaPkStR
namespace Go.Proofs.Ytklpmhiaihabaaa
open Go.RowKit

/-- Bytes as a string. -/
def ba (l : List UInt8) : ByteArray := ⟨l.toArray⟩
theorem ba_size (l : List UInt8) : (ba l).size = l.length := bytes_size l
theorem ba_app (l k : List UInt8) : ba l ++ ba k = ba (l ++ k) := bytes_eq (by rw [app_data]; rfl)
theorem numS_ba (n : Nat) : numS n = ba (num n) := rfl
theorem textE_ba (s : ByteArray) : numS s.size ++ s = ba (textE s) := bytes_eq (by rw [app_data, numS_data]; rfl)
theorem rtextB_is (s : ByteArray) (h : isNote V8 s = true) (w : World) :
    Calls Try.prog 35 #[.string s] w fun e w' => e = .returned (.string (ba (textE s))) ∧ Below w.heap.size w w' := by
  have HT := rtext_any s (by have := note_size h; omega) w
  rw [txt_note h] at HT
  simp only [textE_ba] at HT
  have HT := Lib.hid HT
  generalize ba (textE s) = T at HT ⊢
  clear h
  go_enter Try.func35, Try.ntmps35
  go_wp2_with fail
  refine HT.out.mono ?_
  rintro e w1 ⟨rfl, b1⟩
  go_wp2
  go_ret
  exact ⟨rfl, b1⟩
theorem rnumB_is (n : Int) (h : 0 ≤ n ∧ n ≤ 4611686018427387904) (w : World) :
    Calls Try.prog 32 #[.int .i64 n] w fun e w' => e = .returned (.string (ba (intE n))) ∧ Below w.heap.size w w' := by
  obtain ⟨k, rfl⟩ : ∃ k : Nat, n = k := ⟨n.toNat, by omega⟩
  have HN := Lib.hid (rnumber_is k (by omega) w)
  have e : ba (intE (k : Int)) = numS k := by unfold intE; rw [Int.toNat_natCast]; rfl
  rw [e]
  generalize numS k = T at HN ⊢
  have w1 : IntKind.u64.wrap (k : Int) = (k : Int) := by rw [IntKind.wrap_u64]; omega
  clear e
  go_enter Try.func32, Try.ntmps32
  go_wp2_with fail
  refine HN.out.mono ?_
  rintro e w1 ⟨rfl, b1⟩
  go_wp2
  go_ret
  exact ⟨rfl, b1⟩
theorem rzigB_is (n : Int) (h : zig n ≤ 4611686018427387904) : ∃ k : Nat, zig n = k ∧ ba (zigE n) = numS k ∧ k < 18446744073709551616 := by
  have h0 := zig_lo n
  refine ⟨(zig n).toNat, by omega, ?_, by omega⟩
  unfold zigE; rfl
/-- The cells of a block, kept behind calls that make memory. -/
theorem held3 {T : Nat} {v0 v1 v2 : Value} {W w1 w2 : World} (b2 : Below w1.heap.size w1 w2)
    (h : (w1.cell? ⟨T, 0, none⟩ = some v0 ∧ w1.cell? ⟨T, 1, none⟩ = some v1 ∧ w1.cell? ⟨T, 2, none⟩ = some v2) ∧ T < w1.heap.size ∧ Below W.heap.size W w1) :
    (w2.cell? ⟨T, 0, none⟩ = some v0 ∧ w2.cell? ⟨T, 1, none⟩ = some v1 ∧ w2.cell? ⟨T, 2, none⟩ = some v2) ∧ T < w2.heap.size ∧ Below W.heap.size W w2 := by
  obtain ⟨⟨c0, c1, c2⟩, h1, h3⟩ := h
  have hs := b2.size
  exact ⟨⟨by rw [b2.cell (p := ⟨T, 0, none⟩) h1]; exact c0, by rw [b2.cell (p := ⟨T, 1, none⟩) h1]; exact c1, by rw [b2.cell (p := ⟨T, 2, none⟩) h1]; exact c2⟩, by omega, below_trans h3 b2 h3.size⟩
theorem held5 {T : Nat} {v0 v1 v2 v3 v4 : Value} {W w1 w2 : World} (b2 : Below w1.heap.size w1 w2)
    (h : (w1.cell? ⟨T, 0, none⟩ = some v0 ∧ w1.cell? ⟨T, 1, none⟩ = some v1 ∧ w1.cell? ⟨T, 2, none⟩ = some v2 ∧ w1.cell? ⟨T, 3, none⟩ = some v3 ∧ w1.cell? ⟨T, 4, none⟩ = some v4) ∧ T < w1.heap.size ∧ Below W.heap.size W w1) :
    (w2.cell? ⟨T, 0, none⟩ = some v0 ∧ w2.cell? ⟨T, 1, none⟩ = some v1 ∧ w2.cell? ⟨T, 2, none⟩ = some v2 ∧ w2.cell? ⟨T, 3, none⟩ = some v3 ∧ w2.cell? ⟨T, 4, none⟩ = some v4) ∧ T < w2.heap.size ∧ Below W.heap.size W w2 := by
  obtain ⟨⟨c0, c1, c2, c3, c4⟩, h1, h3⟩ := h
  have hs := b2.size
  exact ⟨⟨by rw [b2.cell (p := ⟨T, 0, none⟩) h1]; exact c0, by rw [b2.cell (p := ⟨T, 1, none⟩) h1]; exact c1, by rw [b2.cell (p := ⟨T, 2, none⟩) h1]; exact c2, by rw [b2.cell (p := ⟨T, 3, none⟩) h1]; exact c3, by rw [b2.cell (p := ⟨T, 4, none⟩) h1]; exact c4⟩, by omega, below_trans h3 b2 h3.size⟩
set_option maxRecDepth 100000 in
set_option maxHeartbeats 4000000 in
theorem leaseBytes_is (x : LeaseD) (h : okLease V8 x) (w : World) :
    Calls Try.prog 36 #[.agg #[.string x.job, .string x.node, .int .i64 x.til]] w fun e w' => e = .returned (.string (ba (leaseB x))) ∧ Below w.heap.size w w' := by
  obtain ⟨h1, h2, h3⟩ := h
  have H1 := Lib.hid (rtextB_is x.job h1)
  have H2 := Lib.hid (rtextB_is x.node h2)
  have H3 := Lib.hid (rnumB_is x.til h3)
  have l1 := text_len h1
  have l2 := text_len h2
  have l3 := int_len h3
  rw [← ba_size] at l1 l2 l3
  have eR : ba (leaseB x) = ba (textE x.job) ++ ba (textE x.node) ++ ba (intE x.til) := by rw [ba_app, ba_app]; unfold leaseB; rw [List.append_assoc]
  rw [eR]
  generalize ba (textE x.job) = P at H1 l1 ⊢
  generalize ba (textE x.node) = Q at H2 l2 ⊢
  generalize ba (intE x.til) = R at H3 l3 ⊢
  obtain ⟨PQ, hPQ⟩ : ∃ PQ, P ++ Q = PQ := ⟨_, rfl⟩
  obtain ⟨Z, hZ⟩ : ∃ Z, PQ ++ R = Z := ⟨_, rfl⟩
  have lPQ : PQ.size = P.size + Q.size := by rw [← hPQ, ByteArray.size_append]
  have a1 : ¬ (9223372036854775807 < P.size + Q.size) := by omega
  have a2 : ¬ (9223372036854775807 < PQ.size + R.size) := by omega
  rw [hPQ, hZ]
  have q := box_new3 w (.string x.job) (.string x.node) (.int .i64 x.til) 27
  have bW := below_one w (.cells #[.string x.job, .string x.node, .int .i64 x.til] 27)
  clear h1 h2 h3 eR lPQ
  go_enter Try.func36, Try.ntmps36
  go_wp2_with fail
  generalize w.alloc (.cells #[.string x.job, .string x.node, .int .i64 x.til] 27) = W at q bW ⊢
  have o1 : (W.cell? ⟨w.heap.size, 0, none⟩ = some (.string x.job) ∧ W.cell? ⟨w.heap.size, 1, none⟩ = some (.string x.node) ∧ W.cell? ⟨w.heap.size, 2, none⟩ = some (.int .i64 x.til)) ∧ w.heap.size < W.heap.size ∧ Below W.heap.size W W := ⟨⟨q.1 0 _ rfl, q.1 1 _ rfl, q.1 2 _ rfl⟩, q.2, Below.refl _ _⟩
  have BW := Lib.hid bW
  clear q bW
  go_region_held3 (fun w' => (w'.cell? ⟨w.heap.size, 0, none⟩ = some (.string x.job) ∧ w'.cell? ⟨w.heap.size, 1, none⟩ = some (.string x.node) ∧ w'.cell? ⟨w.heap.size, 2, none⟩ = some (.int .i64 x.til)) ∧ w.heap.size < w'.heap.size ∧ Below W.heap.size W w')
    (first | assumption | exact ⟨o1.1, o1.2.1, o1.2.2.drew⟩)
    (first
      | (go_at_call 35; (with_reducible refine (H1.out _).mono ?_); rintro e x1 ⟨rfl, c1⟩; have s1 := held3 (W := W) c1 (by assumption))
      | (go_at_call 35; (with_reducible refine (H2.out _).mono ?_); rintro e x2 ⟨rfl, c2⟩; have s2 := held3 (W := W) c2 (by assumption))
      | (go_at_call 32; (with_reducible refine (H3.out _).mono ?_); rintro e x3 ⟨rfl, c3⟩; have s3 := held3 (W := W) c3 (by assumption)))
  all_goals
    rename_i s9
    have hb9 := below_trans BW.out s9.2.2 BW.out.size
    clear s9
    go_wp2
    go_ret
    exact ⟨rfl, hb9⟩
set_option maxRecDepth 100000 in
set_option maxHeartbeats 4000000 in
theorem nodeBytes_is (x : NodeD) (v : Int) (h : okNode V8 v x) (w : World) :
    Calls Try.prog 34 #[.agg #[.string x.name, .int .i64 x.room, .string x.zone], .int .i64 v] w fun e w' => e = .returned (.string (ba (nodeB v x))) ∧ Below w.heap.size w w' := by
  obtain ⟨h1, h2, h3⟩ := h
  have H1 := Lib.hid (rtextB_is x.name h1)
  have H2 := Lib.hid (rnumB_is x.room h2)
  have l1 := text_len h1
  have l2 := int_len h2
  rw [← ba_size] at l1 l2
  have eR : ba (nodeB v x) = ba (textE x.name) ++ ba (intE x.room) ++ ba (if decide (1 < v) then textE x.zone else []) := by rw [ba_app, ba_app]; unfold nodeB; rw [List.append_assoc]
  rw [eR]
  obtain ⟨PQ, hPQ⟩ : ∃ PQ, ba (textE x.name) ++ ba (intE x.room) = PQ := ⟨_, rfl⟩
  rw [hPQ]
  have lPQ : PQ.size = (ba (textE x.name)).size + (ba (intE x.room)).size := by rw [← hPQ, ByteArray.size_append]
  generalize ba (textE x.name) = P at H1 l1 hPQ lPQ
  generalize ba (intE x.room) = Q at H2 l2 hPQ lPQ
  have a1 : ¬ (9223372036854775807 < P.size + Q.size) := by omega
  have q := box_new3 w (.string x.name) (.int .i64 x.room) (.string x.zone) 25
  have bW := below_one w (.cells #[.string x.name, .int .i64 x.room, .string x.zone] 25)
  have HX : Hid ((1 < v ∧ isNote V8 x.zone = true ∧ (if decide (1 < v) then textE x.zone else []) = textE x.zone) ∨ (v ≤ 1 ∧ (if decide (1 < v) then textE x.zone else []) = [])) := by
    by_cases hv : 1 < v
    · left
      have hd : decide (1 < v) = true := by simpa using hv
      rw [hd] at h3 ⊢
      exact ⟨hv, by simpa using h3, by simp⟩
    · right
      have hd : decide (1 < v) = false := by simpa using hv
      rw [hd]
      exact ⟨by omega, by simp⟩
  clear h1 h2 h3 eR
  generalize (if decide (1 < v) then textE x.zone else []) = zz at HX ⊢
  go_enter Try.func34, Try.ntmps34
  go_wp2_with fail
  generalize w.alloc (.cells #[.string x.name, .int .i64 x.room, .string x.zone] 25) = W at q bW ⊢
  have o1 : (W.cell? ⟨w.heap.size, 0, none⟩ = some (.string x.name) ∧ W.cell? ⟨w.heap.size, 1, none⟩ = some (.int .i64 x.room) ∧ W.cell? ⟨w.heap.size, 2, none⟩ = some (.string x.zone)) ∧ w.heap.size < W.heap.size ∧ Below W.heap.size W W := ⟨⟨q.1 0 _ rfl, q.1 1 _ rfl, q.1 2 _ rfl⟩, q.2, Below.refl _ _⟩
  have BW := Lib.hid bW
  clear q bW
  go_region_held3 (fun w' => (w'.cell? ⟨w.heap.size, 0, none⟩ = some (.string x.name) ∧ w'.cell? ⟨w.heap.size, 1, none⟩ = some (.int .i64 x.room) ∧ w'.cell? ⟨w.heap.size, 2, none⟩ = some (.string x.zone)) ∧ w.heap.size < w'.heap.size ∧ Below W.heap.size W w')
    (first | assumption | exact ⟨o1.1, o1.2.1, o1.2.2.drew⟩)
    (first
      | (go_at_call 35; (with_reducible refine (H1.out _).mono ?_); rintro e x1 ⟨rfl, c1⟩; have s1 := held3 (W := W) c1 (by assumption))
      | (go_at_call 32; (with_reducible refine (H2.out _).mono ?_); rintro e x3 ⟨rfl, c3⟩; have s3 := held3 (W := W) c3 (by assumption)))
  all_goals
    rename_i s9
    have hb9 := below_trans BW.out s9.2.2 BW.out.size
    have c2 := s9.1.2.2
    clear s9
    rcases HX.out with ⟨hv, hn, rfl⟩ | ⟨hv, rfl⟩
    · have H4 := Lib.hid (rtextB_is x.zone hn)
      have l4 := text_len hn
      rw [← ba_size] at l4
      obtain ⟨Y, hY⟩ : ∃ Y, ba (textE x.zone) = Y := ⟨_, rfl⟩
      rw [hY] at H4 l4
      have HY := Lib.hid hY
      clear hY
      obtain ⟨Z, hZ⟩ : ∃ Z, PQ ++ Y = Z := ⟨_, rfl⟩
      have a2 : ¬ (9223372036854775807 < PQ.size + Y.size) := by omega
      go_wp2_with fail
      refine (H4.out _).mono ?_
      rintro e y ⟨rfl, c4⟩
      go_wp2
      go_ret
      exact ⟨by rw [HY.out, hZ]; rfl, below_trans hb9 c4 hb9.size⟩
    · have hz : PQ ++ ba [] = PQ := bytes_eq (by rw [app_data]; show _ ++ [] = _; rw [List.append_nil])
      have HZ := Lib.hid hz
      clear hz
      go_wp2
      go_ret
      exact ⟨by rw [HZ.out]; rfl, hb9⟩
end Go.Proofs.Ytklpmhiaihabaaa
