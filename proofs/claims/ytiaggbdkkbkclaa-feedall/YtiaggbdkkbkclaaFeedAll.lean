/- For every slice of frames l, the law FeedAll of the package brackenkeep returns true: the frames of a concatenation of encodings are all returned, and no bytes remain. No condition. -/
import Derived.Test.YtiaggbdkkbkclaaFdEq
import Derived.Test.YtiaggbdkkbkclaaFdArg
namespace Go.Proofs.Ytiaggbdkkbkclaa.feedAll
open Go.ChangeShapes Go.WideShapes Go.ChangeAt Go.RowKit
open Go.ChangeMaps (open_string shut_string)
set_option linter.unusedVariables false

set_option maxRecDepth 100000 in
set_option maxHeartbeats 1000000 in
theorem walk (ad0 : Option Addr) (cap0 : Nat) (xs0 : List (Int × Int × ByteArray)) (s0 : xs0.length * 32 ≤ reachBytes ∧ ∀ x ∈ xs0, x.2.2.size ≤ reachBytes) (w : World) (m0 : FramesAt w ad0 xs0) :
    Calls Try.prog 5 #[.slice ad0 xs0.length cap0] w fun e w' => e = .returned (.bool true) ∧ Below w.heap.size w w' := by
  obtain ⟨i0, hi, hz0, hz1, hz2⟩ := info_parts Try.infoFrame
  have Hi := Lib.hid hi
  have Hz0 := Lib.hid hz0
  have Hz1 := Lib.hid hz1
  have Hz2 := Lib.hid hz2
  clear hi hz0 hz1 hz2
  have hn : xs0.length * 32 ≤ 140737488351232 := by simpa [reachBytes] using s0.1
  have HS := Lib.hid s0.2
  clear s0
  have HM := Lib.hid m0
  clear m0
  go_enter Try.func5, Try.ntmps5
  go_wp2_with fail
  refine (fed_any _).mono ?_
  rintro e v1 ⟨rfl, b1⟩
  go_wp2
  go_loopw [3, 4, 16] (fun sv tv iv wr => ∃ (i : Nat) (done : List Fr), iv = .int .i64 (i : Int) ∧ i ≤ xs0.length ∧ done.length ≤ i ∧ Hid (goods done) ∧ sv = .string (encsB done) ∧ wr.ownsRow v1.heap.size 33 3 tv done.length (frCells done) ∧ Below v1.heap.size v1 wr) (fun _ _ iv _ => xs0.length - (intOf iv).toNat)
  case atStart => exact ⟨0, [], rfl, by omega, by simp, goods_nil, rfl, World.ownsRow_nil _ _ _ _, Below.refl _ _⟩
  case round =>
    obtain ⟨i, done, rfl, hil, hdl, HG, rfl, hown, hbr⟩ := hrel
    by_cases h : (i : Int) < (xs0.length : Int)
    · have hi : i < xs0.length := by omega
      obtain ⟨a, rfl, hal, k0, k1, k2⟩ := framesAt_next (framesAt_next HM.out b1) hbr i hi
      obtain ⟨x, hx⟩ : ∃ x, xs0[i] = x := ⟨_, rfl⟩
      have hxs : x.2.2.size ≤ 140737488351232 := by
        have := HS.out x (by rw [← hx]; exact List.getElem_mem _)
        simpa [reachBytes] using this
      rw [hx] at k0 k1 k2
      rw [add_next a (i * 3) 0] at k1
      rw [add_next a (i * 3) 1] at k2
      obtain ⟨p, q, c⟩ := x
      simp only at k0 k1 k2 hxs
      rcases enc_cases p q c with ⟨p, q, rfl, rfl, hgf, he⟩ | ⟨e, hc, he⟩
      · have H1 := Lib.hid (encode_is _ _ c (by omega) _ _ he)
        obtain ⟨X, hX⟩ : ∃ X, encsB done = X := ⟨_, rfl⟩
        obtain ⟨Y, hY⟩ : ∃ Y, encB p q c = Y := ⟨_, rfl⟩
        have hXs : X.size ≤ 6018 * xs0.length := by
          have h1 := (encs_bd HG.out).2
          rw [← hX, encsB_size]; omega
        have hYs : Y.size ≤ 6018 := by rw [← hY]; exact (enc_bd hgf).1
        have HE := Lib.hid (show X ++ Y = encsB (done ++ [(p, q, c)]) by rw [← hX, ← hY]; exact encsB_snoc done (p, q, c))
        have hadd : ¬ (9223372036854775807 < X.size + Y.size) := by omega
        have HG2 : Hid (goods (done ++ [(p, q, c)])) := goods_append HG.out (fun f hf => by rw [List.mem_singleton] at hf; subst hf; exact hgf)
        rw [hX]
        rw [hY] at H1
        clear hX hY hgf he hx HG hxs hXs hYs
        have t0 := three_new wr (.int .i64 (p : Int)) (.int .i64 (q : Int)) (.string c) 33
        go_wp2_with fail
        refine (H1.out _).mono ?_
        rintro e w2 ⟨rfl, b2⟩
        obtain ⟨⟨q0, q1, q2⟩, hb2, hlt⟩ := three_next t0 b2
        have hown2 := own_below (hown.alloc _) b2
        have hb3 := hbr.trans (hb2.mono hbr.size)
        clear t0 b2 hown k0 k1 k2 hb2
        have hs3 := hb3.size
        go_wp2_with (at_builtin; refine wpList_append_own _ rfl _ _ 26 rfl v1.heap.size 33 i0 _ 3 32 Try.underlying26 Hi.out Hz0.out Hz1.out Hz2.out rfl (by decide) _ _ _ rfl (hown2.alloc _) ⟨w2.heap.size, 0, none⟩ 1 1 (frCell (p, q, c)) rfl rfl ?c1 ?c2 ?c3 ?c4 ?c5 ?_)
        case c1 => exact fun j u hj => fr_new w2 (p, q, c) _ j u hj
        case c2 => exact frCell_one _
        case c3 => unfold maxLen; omega
        case c4 => omega
        case c5 => simp; omega
        · intro v' w3 hown3 hgrow _
          have hb4 := grown_bel (hb3.alloc hs3 _) (by simp; omega) (hown2.alloc _) hgrow
          rw [← frCells_one, ← frCells_append] at hown3
          clear hown2 hgrow hb3 q0 q1 q2
          go_wp2
          go_roundw
          case rel => exact ⟨i + 1, done ++ [(p, q, c)], by simp, by omega, by simp; omega, HG2, by rw [← HE.out], by simpa using hown3, hb4⟩
          case measure => simp [intOf]; omega
      · have H1 := Lib.hid (encode_is _ _ c (by omega) _ _ he)
        have hc' : ((e : Int) == 0) = false := by simp; omega
        clear hc he hx
        go_wp2_with fail
        refine (H1.out _).mono ?_
        rintro e' w2 ⟨rfl, b2⟩
        have hown2 := own_below (hown.alloc _) b2
        have hb3 := hbr.trans ((below2 (below_new wr (.cells #[.int .i64 p, .int .i64 q, .string c] 33)) b2).mono hbr.size)
        go_wp2
        go_roundw
        case rel => exact ⟨i + 1, done, by simp, by omega, by omega, HG, rfl, hown2, hb3⟩
        case measure => simp [intOf]; omega
    · obtain rfl : i = xs0.length := by omega
      obtain ⟨X, hX⟩ : ∃ X, encsB done = X := ⟨_, rfl⟩
      have hXd : X.data.toList = encs done := by rw [← hX, encsB_data]
      have hXz : X.size = (encs done).length := by rw [← hX, encsB_size]
      have hXs : X.size ≤ 6018 * xs0.length := by
        have h1 := (encs_bd HG.out).2
        omega
      have HP : Hid (Pushed (⟨#[]⟩ : ByteArray).data.toList 0 0 X.data.toList done (⟨#[]⟩ : ByteArray).data.toList X.size 0) :=
        .inr ⟨rfl, [], 3, by rw [hXd]; exact split_encs HG.out, by rw [hXz]; omega, .inr ⟨rfl, rfl, rfl⟩⟩
      rw [hX]
      clear hX hXd hXz
      have hb5 := Lib.hid (below2 b1 hbr)
      clear b1
      go_wp2_with fail
      refine (new_is _).mono ?_
      rintro e v2 ⟨rfl, f2, b2, l2⟩
      have o2 := own_below hown b2
      go_wp2_with fail
      refine (push_is f2 X done ⟨#[]⟩ X.size 0 HP.out (by rw [show (⟨#[]⟩ : ByteArray).size = 0 from rfl]; omega) (by omega) (by omega)).mono ?_
      rintro e v3 ⟨v, rfl, o3, f3, g3⟩
      have o4 := o2.kept g3 (by
        cases hk : Value.ownBlock u4 with
        | none => exact .inl rfl
        | some k => right; intro h; have := (hown.lt k hk).2; simp at h; omega)
      have hb6 := Lib.hid (below2 hb5.out (b2.grown g3 b2.size (fun k hk => by simp at hk; omega)))
      clear o2 g3 b2 f2 l2 hown hbr
      have HQ := Lib.hid (eq_same done o3 o4 (by omega))
      clear o3 o4
      go_wp2_with fail
      refine HQ.out.mono ?_
      rintro e v4 ⟨rfl, b4⟩
      have f4 := feedAt_next f3 b4
      go_wp2_with fail
      refine (left_is f4).mono ?_
      rintro e v5 ⟨rfl, rfl⟩
      go_wp2_with fail
      refine (at_is f4).mono ?_
      rintro e v5 ⟨rfl, rfl⟩
      go_wp2
      go_ret
      exact ⟨rfl, below2 hb6.out b4⟩

theorem own : ownKnob Try.prog.godebug = none := by kernel_rfl
theorem laidOut : laidOutB Try.prog = true := by kernel_rfl
set_option maxRecDepth 100000 in
theorem lifted (os : Os) (started : os.Started) (H : Type) (enc : TypeId × Value → H) :
    ReturnsInHanded {} Try.checked os 5 .any (Rows.feedAllSpec.pre6 enc Try.prog Try.f5 Rows.feedAllRow.domain false) (Rows.feedAllSpec.post enc Try.prog Try.f5 false true false false) := by
  refine returnsInHanded_of_change_sized (C := Try.checked) own started (by kernel_rfl) Try.func5
    (ChangeSpec.witness6 (enc := enc) (C := Try.checked) false ⟨#[], #[.slice none 0 0], []⟩ 8 (by kernel_rfl) (by kernel_rfl) (by kernel_rfl) (by kernel_rfl)) ?_
  intro W base args ds gs before hval0 hW hcnd hsz0 _
  have hval : ∀ (j : Nat) t v, Try.f5.params[j]? = some t → args[j]? = some v → Value.okWide Try.prog W .any base t v := hval0
  have hW' := hW
  obtain ⟨p, q, hA0, hV, rfl, hfz, hnd⟩ := hW
  have hA : DataW.TrodAll enc Try.prog W 0 (fun _ => true) true Try.f5.params.toList args.toList ds p := hA0
  have hsz : (DataW.weightsEach Try.prog (Try.f5.params.toList ++ Rows.feedAllSpec.plain.varTypes Try.prog) (ds ++ gs)).all (· ≤ reachBytes) = true := hsz0
  rw [Try.params5] at hA hval hsz
  obtain ⟨v0, vs0, d0, ds0, p0, q0, hargs, rfl, rfl, h0, r0⟩ := trodAll_cons hA
  obtain ⟨rfl, rfl, rfl⟩ := trodAll_nil r0
  obtain rfl : args = #[v0] := by cases args; simp_all
  obtain ⟨rfl, rfl⟩ := trodVars_none hV
  obtain ⟨ad0, cap0, xs0, rfl, m0, x0⟩ := open_frames (hval 0 26 v0 rfl rfl) h0
  have s0 := sized_frames hsz (j := 0) rfl rfl x0
  clear hA0 hval0
  refine (walk ad0 cap0 xs0 s0 W m0).mono fun e W' ⟨he, bel⟩ => ?_
  subst he
  exact ⟨_, rfl, _, _, _, [], _, [], hW', trodAll_mk1 (shut_bool Try.underlying4 _), (trodAll_cons_mk (Below.trod laidOut (by kernel_rfl) (of_decide_eq_true (by kernel_rfl)) h0 bel (fun x hx => by simpa using hW'.lt x (by simp [hx]))) trodAll_mk0), rfl, bel.frame _, fun h => by cases h⟩

theorem over : Rows.feedAllRow.holds Try.pinned (OpenSpec.ofChange Rows.feedAllSpec) :=
  OpenClaim.holds_of_wide 5 Try.f5 rfl rfl rfl rfl rfl rfl rfl ⟨rfl, rfl, rfl, rfl, rfl⟩ rfl rfl rfl rfl rfl (by kernel_rfl) Try.func5 (by kernel_rfl)
    (of_decide_eq_true (by kernel_rfl)) (by unfold Func.isWrapper; first | (rw [if_pos (by decide +kernel)]; kernel_rfl) | (rw [if_neg (by decide +kernel)]; exact ⟨rfl, rfl⟩))
    (fun os started H enc _ => lifted os started H enc)

theorem proved : Rows.FeedAllSaid := over
#print axioms proved
end Go.Proofs.Ytiaggbdkkbkclaa.feedAll
