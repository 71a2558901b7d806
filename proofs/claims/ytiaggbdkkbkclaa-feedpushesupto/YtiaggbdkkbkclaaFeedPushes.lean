/- For every slice of strings pieces of bulk at most 1048576, the law FeedPushes of the package brackenlaw returns true: a feed returns the frames and errors of the reference after every sequence of Push calls. Condition: the bound on the bulk. -/
import Derived.Test.YtiaggbdkkbkclaaFdEq
import Derived.Test.YtiaggbdkkbkclaaFdStrs
import Derived.Test.YtiaggbdkkbkclaaFdRef
import Derived.JoinedCond
namespace Go.Proofs.Ytiaggbdkkbkclaa.feedPushes
open Go.ChangeShapes Go.WideShapes Go.ChangeAt Go.RowKit
open Go.ChangeMaps (open_string shut_string)
set_option linter.unusedVariables false

/-- What the feed holds of all that came: the bytes from the position on, nothing where it has failed. -/
def Holds (all : ByteArray) (r : ByteArray) (a c : Nat) : Prop := a ≤ all.size ∧ (c = 0 → r.data.toList = all.data.toList.drop a) ∧ (c ≠ 0 → r = ⟨#[]⟩)
theorem holds_on {all r p r' : ByteArray} {a a' c' : Nat} {fs : List Fr} (h : Holds all r a 0) (k : Pushed r.data.toList a 0 p.data.toList fs r'.data.toList a' c') :
    ∃ q e n, Split ((all ++ p).extract a (all ++ p).size).data.toList fs q e ∧ (encs fs).length = n ∧ a' = a + n ∧ a' ≤ (all ++ p).size ∧ ((e ≠ 3 ∧ e ≠ 0 ∧ c' = e ∧ r' = ⟨#[]⟩) ∨ (e = 3 ∧ c' = 0 ∧ r'.size = (all ++ p).size - a')) ∧ Holds (all ++ p) r' a' c' := by
  obtain ⟨h1, h2, _⟩ := h
  rcases k with ⟨k0, _⟩ | ⟨_, q, e, hS, rfl, hE⟩
  · exact absurd rfl k0
  have ed : ((all ++ p).extract a (all ++ p).size).data.toList = r.data.toList ++ p.data.toList := by
    rw [drop_data, app_data, List.drop_append_of_le_length (by rw [size_data]; exact h1), h2 rfl]
  have hl := congrArg List.length hS.1
  simp only [List.length_append, size_data] at hl
  have hr := congrArg List.length (h2 rfl)
  rw [size_data, List.length_drop, size_data] at hr
  have hsz : (all ++ p).size = all.size + p.size := ByteArray.size_append
  have hq : q = (all ++ p).data.toList.drop (a + (encs fs).length) := by
    rw [← List.drop_drop, ← drop_data, ed, hS.1]; simp
  refine ⟨q, e, _, by rw [ed]; exact hS, rfl, rfl, by omega, ?_, by omega, ?_, ?_⟩
  · rcases hE with ⟨he, hr', rfl⟩ | ⟨rfl, hr', rfl⟩
    · exact .inl ⟨he, hS.2.2.2, rfl, bytes_of hr'⟩
    · refine .inr ⟨rfl, rfl, ?_⟩
      rw [← size_data, hr']; omega
  · intro hc
    rcases hE with ⟨he, hr', rfl⟩ | ⟨rfl, hr', rfl⟩
    · exact absurd hc hS.2.2.2
    · rw [hr', hq]
  · intro hc
    rcases hE with ⟨he, hr', rfl⟩ | ⟨rfl, hr', rfl⟩
    · exact bytes_of hr'
    · exact absurd rfl hc
set_option maxRecDepth 100000 in
set_option maxHeartbeats 2000000 in
theorem walk (ad0 : Option Addr) (cap0 : Nat) (xs0 : List ByteArray) (s0 : (joined xs0).length + xs0.length ≤ 1048576) (w : World) (m0 : StringsAt w ad0 xs0) :
    Calls Try.prog 3 #[.slice ad0 xs0.length cap0] w fun e w' => e = .returned (.bool true) ∧ Below w.heap.size w w' := by
  have HM := Lib.hid m0
  have HS := Lib.hid s0
  have hn : xs0.length ≤ 1048576 := by omega
  clear m0 s0
  go_enter Try.func3, Try.ntmps3
  go_wp2_with fail
  refine (new_is _).mono ?_
  rintro e v1 ⟨rfl, f1, b1, l1⟩
  go_wp2
  go_loopw [4, 5, 6, 23] (fun sv pv cv iv wr => ∃ (i : Nat) (all r : ByteArray) (a c : Nat), iv = .int .i64 (i : Int) ∧ i ≤ xs0.length ∧ sv = .string all ∧ pv = .int .i64 (a : Int) ∧ cv = .int .i64 (c : Int) ∧ Hid (all.size ≤ (joined (xs0.take i)).length) ∧ Hid (Holds all r a c) ∧ FeedAt wr w.heap.size r a c ∧ Below w.heap.size w wr) (fun _ _ _ iv _ => xs0.length - (intOf iv).toNat)
  case atStart => exact ⟨0, ⟨#[]⟩, ⟨#[]⟩, 0, 0, rfl, by omega, rfl, rfl, rfl, Nat.zero_le _, ⟨Nat.zero_le _, fun _ => rfl, fun h => absurd rfl h⟩, f1, b1⟩
  case round =>
    clear f1 b1 l1
    obtain ⟨i, all, r, a, c, rfl, hil, rfl, rfl, rfl, HB, HH, hf, hbr⟩ := hrel
    by_cases h : (i : Int) < (xs0.length : Int)
    · have hi : i < xs0.length := by omega
      obtain ⟨ad, rfl, hal, k0⟩ := stringsAt_next HM.out hbr i hi
      obtain ⟨p, hp⟩ : ∃ p, xs0[i] = p := ⟨_, rfl⟩
      rw [hp] at k0
      have hat := joined_at xs0 i hi
      have hjt := congrArg List.length (joined_take xs0 i hi)
      rw [hp] at hat hjt
      rw [List.length_append, size_data] at hjt
      have hB := HB.out
      have hS := HS.out
      have q1 : all.size + p.size ≤ 1048576 := by omega
      have q2 : Hid (all.size + p.size ≤ (joined (xs0.take (i + 1))).length) := (by omega : all.size + p.size ≤ (joined (xs0.take (i + 1))).length)
      clear hat hjt hB hS hp
      obtain ⟨ls, r', a', c', hq⟩ := pushed_any' r.data.toList a c p.data.toList
      have hbd := pushed_bd hq
      simp only [size_data] at hbd
      by_cases hc : c = 0
      · subst hc
        have hra : r.size ≤ all.size := by
          have h1 := congrArg List.length (HH.out.2.1 rfl)
          simp only [size_data, List.length_drop] at h1
          omega
        have haa : a ≤ all.size := HH.out.1
        obtain ⟨q, e, n, hS, hN, rfl, haT, hE, hH⟩ := holds_on HH.out hq
        obtain ⟨T, hT⟩ : ∃ T, all ++ p = T := ⟨_, rfl⟩
        obtain ⟨U, hU⟩ : ∃ U, T.extract a T.size = U := ⟨_, rfl⟩
        have HTs : Hid (T.size = all.size + p.size) := by rw [← hT]; exact ByteArray.size_append
        rw [hT] at hS haT hE hH
        rw [hU] at hS
        have hUs : U.size ≤ 1048576 := by
          have := HTs.out
          rw [← hU, ByteArray.size_extract]; omega
        have HX := Lib.hid (push_is hf p ls r' (a + n) c' hq (by omega) (by omega) (by omega))
        have HR := Lib.hid (frames_is U (by omega) ls q e hS (by omega))
        rw [hN] at HR
        have HH2 := Lib.hid hH
        have hTs2 : T.size ≤ 1048576 := by have := HTs.out; omega
        have hadd : ¬ (9223372036854775807 < all.size + p.size) := by omega
        have hai : (a : Int) ≤ (T.size : Int) := by omega
        have hwa : IntKind.i64.wrap ((a : Int) + (n : Int)) = (a : Int) + (n : Int) := IntWalk.i64_in _ (by omega)
        have hwl : IntKind.i64.wrap ((T.size : Int) - ((a : Int) + (n : Int))) = (T.size : Int) - ((a : Int) + (n : Int)) := IntWalk.i64_in _ (by omega)
        have HB2 : Hid (T.size ≤ (joined (xs0.take (i + 1))).length) := by rw [HTs.out]; exact q2.out
        have hb9 : ls.length ≤ 4611686018427387904 := by omega
        clear hq hbd hS hN hH HH HB q2 hf hUs hra haa q1
        go_wp2_with fail
        refine HX.out.mono ?_
        rintro e' w1 ⟨va, rfl, o1, f1, g1⟩
        have hb1 := grownBy_below' hbr g1 hbr.size (Nat.le_refl _)
        clear g1 HX hbr
        go_wp2_with fail
        refine (HR.out _).mono ?_
        rintro e' w2 ⟨vb, rfl, o2, b2⟩
        have f2 := feedAt_next f1 b2
        have o1' := own_below o1 b2
        have hb2 := hb1.trans (b2.mono hb1.size)
        have HE := Lib.hid (eq_same ls o1' o2 hb9)
        clear o1 o1' o2 f1 hb1 b2
        rcases hE with ⟨he, hc0, rfl, rfl⟩ | ⟨rfl, rfl, hr⟩
        · have he' : ((c' : Int) != 3) = true := by simp; omega
          have hc' : ((c' : Int) != 0) = true := by simp; omega
          clear he hc0
          go_wp2_with fail
          refine HE.out.mono ?_
          rintro e' w3 ⟨rfl, b3⟩
          have f3 := feedAt_next f2 b3
          go_wp2_with fail
          refine (left_is f3).mono ?_
          rintro e' w4 ⟨rfl, rfl⟩
          go_wp2_with fail
          refine (at_is f3).mono ?_
          rintro e' w4 ⟨rfl, rfl⟩
          go_wp2
          go_roundw
          case rel => exact ⟨i + 1, T, ⟨#[]⟩, a + n, c', by simp, by omega, rfl, by simp, rfl, HB2, HH2, f3, hb2.trans (b3.mono hb2.size)⟩
          case measure => simp [intOf]; omega
        · have hr' : (r'.size : Int) = (T.size : Int) - ((a : Int) + (n : Int)) := by omega
          clear hr
          go_wp2_with fail
          refine HE.out.mono ?_
          rintro e' w3 ⟨rfl, b3⟩
          have f3 := feedAt_next f2 b3
          go_wp2_with fail
          refine (left_is f3).mono ?_
          rintro e' w4 ⟨rfl, rfl⟩
          go_wp2_with fail
          refine (at_is f3).mono ?_
          rintro e' w4 ⟨rfl, rfl⟩
          go_wp2
          go_roundw
          case rel => exact ⟨i + 1, T, r', a + n, 0, by simp, by omega, rfl, by simp, rfl, HB2, HH2, f3, hb2.trans (b3.mono hb2.size)⟩
          case measure => simp [intOf]; omega
      · have hr : r = ⟨#[]⟩ := HH.out.2.2 hc
        subst hr
        have haa : a ≤ all.size := HH.out.1
        have HX := Lib.hid (push_is hf p [] ⟨#[]⟩ a c (pushed_stuck hc _ _ _) (by rw [show (⟨#[]⟩ : ByteArray).size = 0 from rfl]; omega) (by simp) (by omega))
        have hc' : ((c : Int) == 0) = false := by simp; omega
        have hc2 : ((c : Int) != 0) = true := by simp; omega
        have hwl : IntKind.i64.wrap ((all.size : Int) - (a : Int)) = (all.size : Int) - (a : Int) := IntWalk.i64_in _ (by omega)
        have HB2 : Hid (all.size ≤ (joined (xs0.take (i + 1))).length) := Nat.le_trans (Nat.le_add_right _ _) q2.out
        clear hq hbd HB q2 hf hc q1 haa
        go_wp2_with fail
        refine HX.out.mono ?_
        rintro e' w1 ⟨va, rfl, o1, f1, g1⟩
        have hb1 := grownBy_below' hbr g1 hbr.size (Nat.le_refl _)
        have HE := Lib.hid (eq_same [] o1 (World.ownsRow_nil w1 w1.heap.size 33 3) (by simp))
        clear g1 HX hbr o1
        go_wp2_with fail
        refine HE.out.mono ?_
        rintro e' w3 ⟨rfl, b3⟩
        have f3 := feedAt_next f1 b3
        go_wp2_with fail
        refine (left_is f3).mono ?_
        rintro e' w4 ⟨rfl, rfl⟩
        go_wp2_with fail
        refine (at_is f3).mono ?_
        rintro e' w4 ⟨rfl, rfl⟩
        go_wp2
        go_roundw
        case rel => exact ⟨i + 1, all, ⟨#[]⟩, a, c, by simp, by omega, rfl, rfl, rfl, HB2, HH, f3, hb1.trans (b3.mono hb1.size)⟩
        case measure => simp [intOf]; omega
    · clear hf HH HB
      go_wp2_with fail
      refine (new_is _).mono ?_
      rintro e v2 ⟨rfl, f2, b2, l2⟩
      have HX := Lib.hid (push_is f2 ⟨#[120]⟩ [] ⟨#[]⟩ 0 4 pushed_x (by decide) (by decide) (by decide))
      go_wp2_with fail
      refine HX.out.mono ?_
      rintro e v3 ⟨va, rfl, o3, f3, g3⟩
      have hb := hbr.trans (((grownBy_below' b2 g3 b2.size (Nat.le_refl _))).mono hbr.size)
      clear o3 f3 g3 f2 b2 HX
      go_wp2
      go_ret
      exact ⟨rfl, hb⟩

theorem own : ownKnob Try.prog.godebug = none := by kernel_rfl
theorem laidOut : laidOutB Try.prog = true := by kernel_rfl
set_option maxRecDepth 100000 in
theorem lifted (os : Os) (started : os.Started) (H : Type) (enc : TypeId × Value → H) (F : Stop.Interp) :
    ReturnsInHanded {} Try.checked os 3 .any ((Rows.OpenSpec.upto Rows.feedPushesSpec).pre6 enc Try.prog Try.f3 Rows.feedPushesUptoRow.domain false) (((Rows.OpenSpec.upto Rows.feedPushesSpec).at F).post enc Try.prog Try.f3 false true false false) := by
  refine returnsInHanded_of_cond (C := Try.checked) (s := Rows.OpenSpec.upto Rows.feedPushesSpec) (k := Rows.uptoSmall) rfl own started (by kernel_rfl) Try.func3
    (OpenSpec.witness (enc := enc) (C := Try.checked) (s := Rows.OpenSpec.upto Rows.feedPushesSpec) (k := Rows.uptoSmall) rfl false ⟨#[], #[.slice none 0 0], []⟩ 8 (by kernel_rfl) (by kernel_rfl) (by kernel_rfl)
      (x := ([.nil], [], [])) (by kernel_rfl) rfl (by kernel_rfl)) ?_
  intro W base args ds gs before hval0 hW _ hk0 _
  have hval : ∀ (j : Nat) t v, Try.f3.params[j]? = some t → args[j]? = some v → Value.okWide Try.prog W .any base t v := hval0
  have hW' := hW
  obtain ⟨p, q, hA0, hV, rfl, hfz, hnd⟩ := hW
  have hA : DataW.TrodAll enc Try.prog W 0 (fun _ => true) true Try.f3.params.toList args.toList ds p := hA0
  rw [Try.params3] at hA hval
  obtain ⟨v0, vs0, d0, ds0, p0, q0, hargs, rfl, rfl, h0, r0⟩ := trodAll_cons hA
  obtain ⟨rfl, rfl, rfl⟩ := trodAll_nil r0
  obtain rfl : args = #[v0] := by cases args; simp_all
  obtain ⟨rfl, rfl⟩ := trodVars_none hV
  have hk := hk0
  obtain ⟨ad0, cap0, xs0, rfl, m0, x0⟩ := open_strs (hval 0 22 v0 rfl rfl) h0
  have s0 := upto_strs hk (j := 0) rfl x0
  clear hA0 hval0
  refine (walk ad0 cap0 xs0 s0 W m0).mono fun e W' ⟨he, bel⟩ => ?_
  subst he
  exact ⟨_, rfl, _, _, _, [], _, [], hW', trodAll_mk1 (shut_bool Try.underlying4 _), (trodAll_cons_mk (Below.trod laidOut (by kernel_rfl) (of_decide_eq_true (by kernel_rfl)) h0 bel (fun x hx => by simpa using hW'.lt x (by simp [hx]))) trodAll_mk0), rfl, bel.frame _, fun h => by cases h⟩

theorem proved : Rows.FeedPushesUptoSaid :=
  OpenClaim.holds_of_cond 3 Try.f3 rfl rfl rfl rfl rfl rfl rfl ⟨rfl, rfl, rfl, rfl, rfl⟩ rfl rfl rfl rfl rfl (by kernel_rfl) Try.func3 (by kernel_rfl)
    (of_decide_eq_true (by kernel_rfl)) (by unfold Func.isWrapper; first | (rw [if_pos (by decide +kernel)]; kernel_rfl) | (rw [if_neg (by decide +kernel)]; exact ⟨rfl, rfl⟩))
    (fun os started H enc _ F => lifted os started H enc F)
#print axioms proved
end Go.Proofs.Ytiaggbdkkbkclaa.feedPushes
