/- For every string s, the law NumberOne of the package brackenkeep returns true: what ReadNumber reads is encoded by just the bytes read, no proper prefix of them is a number, and an error comes with zero values. No condition. -/
import Derived.Test.YtmiidfeckchjoaaNumUse
import Derived.OpenShut
import Derived.ShutString
import Derived.SizedLaws
import Derived.ChangeOld
import Derived.StillTailTactics
import Derived.Deep.RegionHeld3
namespace Go.Proofs.Ytmiidfeckchjoaa.numberOne
open Go.ChangeShapes Go.WideShapes Go.ChangeAt Go.RowKit
open Go.ChangeMaps (open_string shut_string)
set_option linter.unusedVariables false

theorem take_data (s : ByteArray) (k : Nat) : (s.extract 0 k).data.toList = s.data.toList.take k := by
  simp [ByteArray.data_extract]
theorem same (s : ByteArray) (N k : Nat) (h : num N = s.data.toList.take k) : ((numS N).toList == (s.extract 0 k).toList) = true := by
  rw [ByteArray.toList_eq, ByteArray.toList_eq, numS_data, take_data, h]; simp
set_option maxRecDepth 100000 in
set_option maxHeartbeats 400000 in
theorem walk (a0 : ByteArray) (w0 : a0.size ≤ maxLen) (s0 : a0.data.toList.length ≤ reachBytes) (w : World) :
    Calls Try.prog 8 #[.string a0] w fun e w' => e = .returned (.bool true) ∧ Below w.heap.size w w' := by
  have s1 : a0.size ≤ 140737488351232 := by simpa [reachBytes] using s0
  clear s0
  obtain ⟨N, k, c, hr⟩ : ∃ N k c, rd a0.data.toList = (N, k, c) := ⟨_, _, _, rfl⟩
  have HR := Lib.hid hr
  by_cases hc : c = 0
  · subst hc
    have ho := rd_ok (l := a0.data.toList) (by rw [hr])
    rw [hr] at ho
    obtain ⟨hN, hk, hkl, hn, hp⟩ := ho
    have HP := Lib.hid hp
    have HC := Lib.hid (number_is N hN)
    have hS := same a0 N k hn
    have hk1 : 1 ≤ k := by have := num_pos N; simp at hk; omega
    have hkl : k ≤ a0.size := by simpa using hkl
    have hd1 : decide ((1 : Int) ≤ (k : Int)) = true := by simp; omega
    have hd2 : decide (k ≤ a0.size) = true := by simp; omega
    clear hr hN hk hn hp
    generalize numS N = t at *
    go_enter Try.func8, Try.ntmps8
    go_wp2_with fail
    refine (told_any _).mono ?_
    rintro e w3 ⟨rfl, rfl⟩
    go_wp2_with fail
    refine (read_is _ _ _ _ HR.out w0 _).mono ?_
    rintro e w3 ⟨rfl, rfl⟩
    go_wp2_with fail
    go_loop [27] (fun i => ∃ j : Nat, j ≤ k ∧ i = .int .i64 j) (fun i => k - (intOf i).toNat)
    case atStart => exact ⟨0, by omega, rfl⟩
    case round =>
      obtain ⟨j, hj, rfl⟩ := hrel
      by_cases hjk : j < k
      · have HJ : Hid (rd (a0.extract 0 j).data.toList = (0, 0, 3)) := by
          show rd _ = _
          rw [take_data]; exact HP.out j hjk
        go_wp2_with fail
        refine (read_is _ _ _ _ HJ.out (by simp [ByteArray.size_extract]; unfold maxLen; omega) _).mono ?_
        rintro e w3 ⟨rfl, rfl⟩
        go_wp2
        go_round
        case rel => exact ⟨j + 1, by omega, by go_num⟩
        case measure => simp [intOf]; omega
      · go_wp2_with fail
        go_region_held3 (fun w' => Below w.heap.size w w') (first | exact Below.refl _ _ | exact (Below.refl _ _).drew | exact (‹Below w.heap.size w _›).drew | assumption)
          (first
            | (go_at_call 13; refine (HC.out _).mono ?_; rintro e w2 ⟨rfl, hb2⟩; have hb3 := (Below.refl w.heap.size w).drew.trans hb2; clear hb2))
        go_wp2
        go_ret
        exact ⟨rfl, by assumption⟩
  · have ho := rd_err (l := a0.data.toList) (by rw [hr]; exact hc)
    rw [hr] at ho
    obtain ⟨rfl, rfl⟩ := ho
    have hc' : ((c : Int) != 0) = true := by simp; omega
    clear hr
    go_enter Try.func8, Try.ntmps8
    go_wp2_with fail
    refine (told_any _).mono ?_
    rintro e w3 ⟨rfl, rfl⟩
    go_wp2_with fail
    refine (read_is _ _ _ _ HR.out w0 _).mono ?_
    rintro e w3 ⟨rfl, rfl⟩
    go_wp2
    go_ret
    exact ⟨rfl, Below.refl _ _⟩

theorem own : ownKnob Try.prog.godebug = none := by kernel_rfl
set_option maxRecDepth 100000 in
theorem lifted (os : Os) (started : os.Started) (H : Type) (enc : TypeId × Value → H) :
    ReturnsInHanded {} Try.checked os 8 .any (Rows.numberOneSpec.pre6 enc Try.prog Try.f8 Rows.numberOneRow.domain false) (Rows.numberOneSpec.post enc Try.prog Try.f8 false true false false) := by
  refine returnsInHanded_of_change_sized (C := Try.checked) own started (by kernel_rfl) Try.func8
    (ChangeSpec.witness6 (enc := enc) (C := Try.checked) false ⟨#[], #[.string ByteArray.empty], []⟩ 8 (by kernel_rfl) (by kernel_rfl) (by kernel_rfl) (by kernel_rfl)) ?_
  intro W base args ds gs before hval0 hW hcnd hsz0 _
  have hval : ∀ (j : Nat) t v, Try.f8.params[j]? = some t → args[j]? = some v → Value.okWide Try.prog W .any base t v := hval0
  have hW' := hW
  obtain ⟨p, q, hA0, hV, rfl, hfz, hnd⟩ := hW
  have hA : DataW.TrodAll enc Try.prog W 0 (fun _ => true) true Try.f8.params.toList args.toList ds p := hA0
  have hsz : (DataW.weightsEach Try.prog (Try.f8.params.toList ++ Rows.numberOneSpec.plain.varTypes Try.prog) (ds ++ gs)).all (· ≤ reachBytes) = true := hsz0
  rw [Try.params8] at hA hval hsz
  obtain ⟨v0, vs0, d0, ds0, p0, q0, hargs, rfl, rfl, h0, r0⟩ := trodAll_cons hA
  obtain ⟨rfl, rfl, rfl⟩ := trodAll_nil r0
  obtain rfl : args = #[v0] := by cases args; simp_all
  obtain ⟨rfl, rfl⟩ := trodVars_none hV
  obtain ⟨a0, rfl, rfl, rfl, w0⟩ := open_string Try.underlying9 (hval 0 9 v0 rfl rfl) h0
  have s0 : a0.data.toList.length ≤ reachBytes := sized_string hsz (j := 0) (t := 9) rfl rfl
  clear hA0 hval0
  refine (walk a0 w0 s0 W).mono fun e W' ⟨he, bel⟩ => ?_
  subst he
  exact ⟨_, rfl, _, _, _, [], _, [], hW', trodAll_mk1 (shut_bool Try.underlying4 _), (trodAll_cons_mk (shut_string Try.underlying9 w0) trodAll_mk0), rfl, bel.frame _, fun h => by cases h⟩

theorem over : Rows.numberOneRow.holds Try.pinned (OpenSpec.ofChange Rows.numberOneSpec) :=
  OpenClaim.holds_of_wide 8 Try.f8 rfl rfl rfl rfl rfl rfl rfl ⟨rfl, rfl, rfl, rfl, rfl⟩ rfl rfl rfl rfl rfl (by kernel_rfl) Try.func8 (by kernel_rfl)
    (of_decide_eq_true (by kernel_rfl)) (by unfold Func.isWrapper; first | (rw [if_pos (by decide +kernel)]; kernel_rfl) | (rw [if_neg (by decide +kernel)]; exact ⟨rfl, rfl⟩))
    (fun os started H enc _ => lifted os started H enc)

theorem proved : Rows.NumberOneSaid := over
#print axioms proved
end Go.Proofs.Ytmiidfeckchjoaa.numberOne
