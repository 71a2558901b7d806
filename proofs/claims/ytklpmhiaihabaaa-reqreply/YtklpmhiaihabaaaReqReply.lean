/- For every reply and every string the law ReqReply of the package brackenkeep returns true: a reply is read as it was told, and what is read is told so. No condition. -/
import Derived.Test.YtklpmhiaihabaaaRqAsked
import Derived.Test.YtklpmhiaihabaaaRqArg
namespace Go.Proofs.Ytklpmhiaihabaaa.reqReply
open Go.ChangeShapes Go.WideShapes Go.ChangeAt Go.RowKit
open Go.ChangeMaps (open_string shut_string)
set_option linter.unusedVariables false

/-- The law's second half, as a fact on what ReadReply and Reply answer. -/
theorem again (s : ByteArray) : ((pdecR s.data.toList).2 ≠ 0 ∧ (pdecR s.data.toList).1 = zeroP ∧ pencR zeroP = (pB zeroP, 0)) ∨ ((pdecR s.data.toList).2 = 0 ∧ pencR (pdecR s.data.toList).1 = (s.data.toList, 0)) := by
  obtain ⟨⟨p, c⟩, h⟩ : ∃ x, pdecR s.data.toList = x := ⟨_, rfl⟩
  rw [h]
  by_cases hc : c = 0
  · subst hc
    obtain ⟨h1, h2⟩ := p_read h
    right
    refine ⟨rfl, ?_⟩
    show pencR p = _
    unfold pencR
    rw [if_pos h1, h2]
  · left
    exact ⟨hc, p_err h hc, by unfold pencR; rw [if_pos (by decide)]⟩
set_option maxRecDepth 100000 in
set_option maxHeartbeats 8000000 in
theorem walk (r : RepD) (s : ByteArray) (hwr : wRep r) (hws : s.size ≤ maxLen) (hzs : s.data.toList.length ≤ reachBytes) (w : World) :
    Calls Try.prog 10 #[.agg #[.int .i64 r.code, .int .i64 r.rev], .string s] w fun e w' => e = .returned (.bool true) ∧ Below w.heap.size w w' := by
  have hs2 : s.size ≤ 140737488355328 := by have h := hzs; rw [size_l] at h; unfold reachBytes at h; omega
  have hs3 : s.size ≤ 1152921504606846976 := by omega
  have HS3 := Lib.hid hs3
  have bA := below_one w (.cells #[.int .i64 r.code, .int .i64 r.rev] 39)
  have oA := objAt_new w #[.int .i64 r.code, .int .i64 r.rev] 39
  obtain ⟨W0, hW0⟩ : ∃ W0, w.alloc (.cells #[.int .i64 r.code, .int .i64 r.rev] 39) = W0 := ⟨_, rfl⟩
  rw [hW0] at bA oA
  have HA := Lib.hid (asked_is W0)
  have OA := Lib.hid oA
  have BA := Lib.hid bA
  clear hzs hws hwr hs2 hs3 bA oA
  go_enter Try.func10, Try.ntmps10
  go_wp2_with fail
  refine HA.out.mono ?_
  rintro e w1 ⟨rfl, b1⟩
  have o1 := objAt_next OA.out b1
  have B1 := Lib.hid (below_trans BA.out b1 BA.out.size)
  have H1 := reply_any r w1
  have k0 := objAt_cell o1 0 rfl
  have k1 := objAt_cell o1 1 rfl
  have O1 := Lib.hid o1
  clear b1 o1 HA OA BA
  by_cases hg : goodP r = true
  · rw [show pencR r = (pB r, 0) from by unfold pencR; rw [if_pos hg]] at H1
    obtain ⟨S, hS⟩ : ∃ S : ByteArray, (⟨(pB r).toArray⟩ : ByteArray) = S := ⟨_, rfl⟩
    have H1 := Lib.hid (by rw [show (⟨((pB r), 0).1.toArray⟩ : ByteArray) = S from hS] at H1; exact H1 : Calls Try.prog 18 #[.agg #[.int .i64 r.code, .int .i64 r.rev]] w1 fun e w' => e = .returned (.tuple #[.string S, .int .i64 0]) ∧ Below w1.heap.size w1 w')
    have hsz : S.size ≤ 1152921504606846976 := by
      have hx := (goodP_iff r).1 hg
      have l1 := int_len (n := r.code) (by omega)
      have l2 := int_len (n := r.rev) (by omega)
      have e : S.size = (pB r).length := by rw [← hS]; simp [ByteArray.size]
      rw [e]
      unfold pB
      rw [List.length_append]
      omega
    have hb : pdecR S.data.toList = (r, 0) := by rw [← hS]; exact p_back hg
    have HR := Lib.hid (fun V : World => (by have h := readReply_any S hsz V; rw [hb] at h; exact h : Calls Try.prog 20 #[.string S] V fun e w' => e = .returned (.tuple #[.agg #[.int .i64 r.code, .int .i64 r.rev], .int .i64 0]) ∧ Below V.heap.size V w'))
    clear hS hsz hb hg
    go_wp2_with fail
    refine H1.out.mono ?_
    rintro e w2 ⟨rfl, b2⟩
    have o2 := objAt_next O1.out b2
    have B2 := Lib.hid (below_trans B1.out b2 B1.out.size)
    have O2 := Lib.hid o2
    clear k0 k1 b2 o2 H1
    go_wp2_with fail
    refine (HR.out _).mono ?_
    rintro e w3 ⟨rfl, b3⟩
    have oX := objAt_new w3 #[.int .i64 r.code, .int .i64 r.rev] 39
    have bX := below_one w3 (.cells #[.int .i64 r.code, .int .i64 r.rev] 39)
    have o3 := objAt_next (objAt_next O2.out b3) bX
    have B3 := below_trans B2.out b3 B2.out.size
    have B4 := Lib.hid (below_trans B3 bX B3.size)
    obtain ⟨X, hX⟩ : ∃ X, w3.heap.size = X := ⟨_, rfl⟩
    obtain ⟨W3, hW3⟩ : ∃ V, w3.alloc (.cells #[.int .i64 r.code, .int .i64 r.rev] 39) = V := ⟨_, rfl⟩
    rw [hW3] at oX B4 o3
    rw [hX] at oX
    have x0 := objAt_cell oX 0 rfl
    have x1 := objAt_cell oX 1 rfl
    have k0 := objAt_cell o3 0 rfl
    have k1 := objAt_cell o3 1 rfl
    clear b3 oX bX o3 B3 HR
    have HD3 := Lib.hid (readReply_any s HS3.out W3)
    rcases again s with ⟨h1, h2, h3⟩ | ⟨h1, h2⟩
    · obtain ⟨D, hD⟩ : ∃ D, pdecR s.data.toList = D := ⟨_, rfl⟩
      obtain ⟨S2, hS2⟩ : ∃ S2 : ByteArray, (⟨(pB zeroP).toArray⟩ : ByteArray) = S2 := ⟨_, rfl⟩
      have HY := Lib.hid (fun V : World => (by have h := reply_any zeroP V; rw [h3] at h; rw [show (⟨((pB zeroP), 0).1.toArray⟩ : ByteArray) = S2 from hS2] at h; exact h : Calls Try.prog 18 #[.agg #[.int .i64 0, .int .i64 0]] V fun e w' => e = .returned (.tuple #[.string S2, .int .i64 0]) ∧ Below V.heap.size V w'))
      have HD3 := HD3.out
      rw [hD] at HD3 h1 h2
      rw [h2] at HD3
      have HD3 := Lib.hid HD3
      have h1' : ((D.2 : Int) != 0) = true := by simp; omega
      have h1'' : ((D.2 : Int) == 0) = false := by simp; omega
      clear h1 h2 h3 hD hS2
      go_wp2_with fail
      refine HD3.out.mono ?_
      rintro e v1 ⟨rfl, b1⟩
      have oX := objAt_new v1 #[.int .i64 0, .int .i64 0] 39
      have bX := below_one v1 (.cells #[.int .i64 0, .int .i64 0] 39)
      have B1 := below_trans B4.out b1 B4.out.size
      have B2 := Lib.hid (below_trans B1 bX B1.size)
      have e0 : zeroP.code = 0 := rfl
      have e1 : zeroP.rev = 0 := rfl
      simp only [e0, e1]
      have OX := Lib.hid oX
      clear b1 bX B1 oX
      go_wp2_with fail
      refine (HY.out _).mono ?_
      rintro e v2 ⟨rfl, b2⟩
      have o2 := objAt_next OX.out b2
      have BF := Lib.hid (below_trans B2.out b2 B2.out.size)
      clear b2
      have x0 := objAt_cell o2 0 rfl
      have x1 := objAt_cell o2 1 rfl
      clear o2
      go_wp2
      go_ret
      exact ⟨rfl, BF.out⟩
    · obtain ⟨D, hD⟩ : ∃ D, pdecR s.data.toList = D := ⟨_, rfl⟩
      rw [hD] at h1 h2
      have HD3 := HD3.out
      rw [hD, h1] at HD3
      have HD3 := Lib.hid HD3
      have HY := Lib.hid (fun V : World => (by have h := reply_any D.1 V; rw [h2] at h; exact h : Calls Try.prog 18 #[.agg #[.int .i64 D.1.code, .int .i64 D.1.rev]] V fun e w' => e = .returned (.tuple #[.string s, .int .i64 0]) ∧ Below V.heap.size V w'))
      have hss : (s.toList == s.toList) = true := by simp
      clear h1 h2 hD
      go_wp2_with fail
      refine HD3.out.mono ?_
      rintro e v1 ⟨rfl, b1⟩
      have oX := objAt_new v1 #[.int .i64 D.1.code, .int .i64 D.1.rev] 39
      have bX := below_one v1 (.cells #[.int .i64 D.1.code, .int .i64 D.1.rev] 39)
      have B1 := below_trans B4.out b1 B4.out.size
      have B2 := Lib.hid (below_trans B1 bX B1.size)
      obtain ⟨X, hX⟩ : ∃ X, v1.heap.size = X := ⟨_, rfl⟩
      obtain ⟨V1, hV1⟩ : ∃ V, v1.alloc (.cells #[.int .i64 D.1.code, .int .i64 D.1.rev] 39) = V := ⟨_, rfl⟩
      rw [hV1] at oX B2
      rw [hX] at oX
      have x0 := objAt_cell oX 0 rfl
      have x1 := objAt_cell oX 1 rfl
      have OX := Lib.hid oX
      clear b1 bX B1 oX
      go_wp2_with fail
      refine (HY.out _).mono ?_
      rintro e v2 ⟨rfl, b2⟩
      have o2 := objAt_next OX.out b2
      have BF := Lib.hid (below_trans B2.out b2 B2.out.size)
      clear x0 x1 b2
      have x0 := objAt_cell o2 0 rfl
      have x1 := objAt_cell o2 1 rfl
      clear o2
      go_wp2
      go_ret
      exact ⟨rfl, BF.out⟩
  · rw [show pencR r = ([], 1) from by unfold pencR; rw [if_neg hg]] at H1
    have H1 := Lib.hid (H1 : Calls Try.prog 18 #[.agg #[.int .i64 r.code, .int .i64 r.rev]] w1 fun e w' => e = .returned (.tuple #[.string ⟨#[]⟩, .int .i64 1]) ∧ Below w1.heap.size w1 w')
    clear hg
    go_wp2_with fail
    refine H1.out.mono ?_
    rintro e w2 ⟨rfl, b2⟩
    have B2 := Lib.hid (below_trans B1.out b2 B1.out.size)
    clear k0 k1 b2 H1
    have HD3 := Lib.hid (readReply_any s HS3.out w2)
    rcases again s with ⟨h1, h2, h3⟩ | ⟨h1, h2⟩
    · obtain ⟨D, hD⟩ : ∃ D, pdecR s.data.toList = D := ⟨_, rfl⟩
      obtain ⟨S2, hS2⟩ : ∃ S2 : ByteArray, (⟨(pB zeroP).toArray⟩ : ByteArray) = S2 := ⟨_, rfl⟩
      have HY := Lib.hid (fun V : World => (by have h := reply_any zeroP V; rw [h3] at h; rw [show (⟨((pB zeroP), 0).1.toArray⟩ : ByteArray) = S2 from hS2] at h; exact h : Calls Try.prog 18 #[.agg #[.int .i64 0, .int .i64 0]] V fun e w' => e = .returned (.tuple #[.string S2, .int .i64 0]) ∧ Below V.heap.size V w'))
      have HD3 := HD3.out
      rw [hD] at HD3 h1 h2
      rw [h2] at HD3
      have HD3 := Lib.hid HD3
      have h1' : ((D.2 : Int) != 0) = true := by simp; omega
      have h1'' : ((D.2 : Int) == 0) = false := by simp; omega
      clear h1 h2 h3 hD hS2
      go_wp2_with fail
      refine HD3.out.mono ?_
      rintro e v1 ⟨rfl, b1⟩
      have oX := objAt_new v1 #[.int .i64 0, .int .i64 0] 39
      have bX := below_one v1 (.cells #[.int .i64 0, .int .i64 0] 39)
      have B1 := below_trans B2.out b1 B2.out.size
      have B2 := Lib.hid (below_trans B1 bX B1.size)
      have e0 : zeroP.code = 0 := rfl
      have e1 : zeroP.rev = 0 := rfl
      simp only [e0, e1]
      have OX := Lib.hid oX
      clear b1 bX B1 oX
      go_wp2_with fail
      refine (HY.out _).mono ?_
      rintro e v2 ⟨rfl, b2⟩
      have o2 := objAt_next OX.out b2
      have BF := Lib.hid (below_trans B2.out b2 B2.out.size)
      clear b2
      have x0 := objAt_cell o2 0 rfl
      have x1 := objAt_cell o2 1 rfl
      clear o2
      go_wp2
      go_ret
      exact ⟨rfl, BF.out⟩
    · obtain ⟨D, hD⟩ : ∃ D, pdecR s.data.toList = D := ⟨_, rfl⟩
      rw [hD] at h1 h2
      have HD3 := HD3.out
      rw [hD, h1] at HD3
      have HD3 := Lib.hid HD3
      have HY := Lib.hid (fun V : World => (by have h := reply_any D.1 V; rw [h2] at h; exact h : Calls Try.prog 18 #[.agg #[.int .i64 D.1.code, .int .i64 D.1.rev]] V fun e w' => e = .returned (.tuple #[.string s, .int .i64 0]) ∧ Below V.heap.size V w'))
      have hss : (s.toList == s.toList) = true := by simp
      clear h1 h2 hD
      go_wp2_with fail
      refine HD3.out.mono ?_
      rintro e v1 ⟨rfl, b1⟩
      have oX := objAt_new v1 #[.int .i64 D.1.code, .int .i64 D.1.rev] 39
      have bX := below_one v1 (.cells #[.int .i64 D.1.code, .int .i64 D.1.rev] 39)
      have B1 := below_trans B2.out b1 B2.out.size
      have B2 := Lib.hid (below_trans B1 bX B1.size)
      obtain ⟨X, hX⟩ : ∃ X, v1.heap.size = X := ⟨_, rfl⟩
      obtain ⟨V1, hV1⟩ : ∃ V, v1.alloc (.cells #[.int .i64 D.1.code, .int .i64 D.1.rev] 39) = V := ⟨_, rfl⟩
      rw [hV1] at oX B2
      rw [hX] at oX
      have x0 := objAt_cell oX 0 rfl
      have x1 := objAt_cell oX 1 rfl
      have OX := Lib.hid oX
      clear b1 bX B1 oX
      go_wp2_with fail
      refine (HY.out _).mono ?_
      rintro e v2 ⟨rfl, b2⟩
      have o2 := objAt_next OX.out b2
      have BF := Lib.hid (below_trans B2.out b2 B2.out.size)
      clear x0 x1 b2
      have x0 := objAt_cell o2 0 rfl
      have x1 := objAt_cell o2 1 rfl
      clear o2
      go_wp2
      go_ret
      exact ⟨rfl, BF.out⟩

theorem own : ownKnob Try.prog.godebug = none := by kernel_rfl
set_option maxRecDepth 100000 in
theorem lifted (os : Os) (started : os.Started) (H : Type) (enc : TypeId × Value → H) :
    ReturnsInHanded {} Try.checked os 10 .any (Rows.reqReplySpec.pre6 enc Try.prog Try.f10 Rows.reqReplyRow.domain false) (Rows.reqReplySpec.post enc Try.prog Try.f10 false true false false) := by
  refine returnsInHanded_of_change_sized (C := Try.checked) own started (by kernel_rfl) Try.func10
    (ChangeSpec.witness6 (enc := enc) (C := Try.checked) false ⟨#[], #[.agg #[.int .i64 0, .int .i64 0], .string ByteArray.empty], []⟩ 8 (by kernel_rfl) (by kernel_rfl) (by kernel_rfl) (by kernel_rfl)) ?_
  intro W base args ds gs before hval0 hW hcnd hsz0 _
  have hval : ∀ (j : Nat) t v, Try.f10.params[j]? = some t → args[j]? = some v → Value.okWide Try.prog W .any base t v := hval0
  have hW' := hW
  obtain ⟨p, q, hA0, hV, rfl, hfz, hnd⟩ := hW
  have hA : DataW.TrodAll enc Try.prog W 0 (fun _ => true) true Try.f10.params.toList args.toList ds p := hA0
  have hsz : (DataW.weightsEach Try.prog (Try.f10.params.toList ++ Rows.reqReplySpec.plain.varTypes Try.prog) (ds ++ gs)).all (· ≤ reachBytes) = true := hsz0
  rw [Try.params10] at hA hval hsz
  obtain ⟨v0, vs0, d0, ds0, p0, q0, hargs, rfl, rfl, h0, r0⟩ := trodAll_cons hA
  obtain ⟨v1, vs1, d1, ds1, p1, q1, rfl, rfl, rfl, h1, r1⟩ := trodAll_cons r0
  obtain ⟨rfl, rfl, rfl⟩ := trodAll_nil r1
  obtain rfl : args = #[v0, v1] := by cases args; simp_all
  obtain ⟨rfl, rfl⟩ := trodVars_none hV
  obtain ⟨x0, rfl, rfl, rfl, w0⟩ := open_reply (hval 0 39 v0 rfl rfl) h0
  obtain ⟨a1, rfl, rfl, rfl, w1⟩ := open_string Try.underlying9 (hval 1 9 v1 rfl rfl) h1
  have s1 : a1.data.toList.length ≤ reachBytes := sized_string hsz (j := 1) (t := 9) rfl rfl
  clear hA0 hval0
  refine (walk x0 a1 w0 w1 s1 W).mono fun e W' ⟨he, bel⟩ => ?_
  subst he
  exact ⟨_, rfl, _, _, _, [], _, [], hW', trodAll_mk1 (shut_bool Try.underlying4 _), (trodAll_cons_mk (shut_reply w0) (trodAll_cons_mk (shut_string Try.underlying9 w1) trodAll_mk0)), rfl, bel.frame _, fun h => by cases h⟩

theorem over : Rows.reqReplyRow.holds Try.pinned (OpenSpec.ofChange Rows.reqReplySpec) :=
  OpenClaim.holds_of_wide 10 Try.f10 rfl rfl rfl rfl rfl rfl rfl ⟨rfl, rfl, rfl, rfl, rfl⟩ rfl rfl rfl rfl rfl (by kernel_rfl) Try.func10 (by kernel_rfl)
    (of_decide_eq_true (by kernel_rfl)) (by unfold Func.isWrapper; first | (rw [if_pos (by decide +kernel)]; kernel_rfl) | (rw [if_neg (by decide +kernel)]; exact ⟨rfl, rfl⟩))
    (fun os started H enc _ => lifted os started H enc)

theorem proved : Rows.ReqReplySaid := over
#print axioms proved
end Go.Proofs.Ytklpmhiaihabaaa.reqReply
