/- For every three strings a, b and more, the law SumGoesOn of the package brackenkeep returns true: a and b have equal sums just if a + more and b + more have. No condition. -/
import Derived.Test.YtmiidfeckchjoabSumUse
import Derived.OpenShut
import Derived.ShutString
import Derived.SizedLaws
import Derived.ChangeOld
namespace Go.Proofs.Ytmiidfeckchjoab.sumGoesOn
open Go.ChangeShapes Go.WideShapes Go.ChangeAt Go.RowKit
open Go.ChangeMaps (open_string shut_string)
set_option linter.unusedVariables false

theorem same (a b m : ByteArray) : (((sum a.data.toList : Int) == (sum b.data.toList : Int)) == ((sum (a ++ m).data.toList : Int) == (sum (b ++ m).data.toList : Int))) = true := by
  have e : ∀ s t : ByteArray, (s ++ t).data.toList = s.data.toList ++ t.data.toList := fun s t => by simp
  rw [e, e]
  have h := sum_goesOn a.data.toList b.data.toList m.data.toList
  by_cases h1 : sum a.data.toList = sum b.data.toList
  · have h2 := h.1 h1
    simp [h1, h2]
  · have h2 : ¬ sum (a.data.toList ++ m.data.toList) = sum (b.data.toList ++ m.data.toList) := fun x => h1 (h.2 x)
    have h3 : ((sum a.data.toList : Int) == (sum b.data.toList : Int)) = false := by simp; omega
    have h4 : ((sum (a.data.toList ++ m.data.toList) : Int) == (sum (b.data.toList ++ m.data.toList) : Int)) = false := by simp; omega
    rw [h3, h4]; rfl
set_option maxHeartbeats 400000 in
theorem walk (a0 a1 a2 : ByteArray) (w0 : a0.size ≤ maxLen) (w1 : a1.size ≤ maxLen) (w2 : a2.size ≤ maxLen) (s0 : a0.data.toList.length ≤ reachBytes) (s1 : a1.data.toList.length ≤ reachBytes) (s2 : a2.data.toList.length ≤ reachBytes) (w : World) :
    Calls Try.prog 7 #[.string a0, .string a1, .string a2] w fun e w' => e = .returned (.bool true) ∧ Below w.heap.size w w' := by
  have t0 : a0.size ≤ 140737488351232 := by simpa [reachBytes] using s0
  have t1 : a1.size ≤ 140737488351232 := by simpa [reachBytes] using s1
  have t2 : a2.size ≤ 140737488351232 := by simpa [reachBytes] using s2
  have hs := same a0 a1 a2
  have H0 := Lib.hid (sum_is a0 w0)
  have H1 := Lib.hid (sum_is a1 w1)
  have H2 := Lib.hid (sum_is (a0 ++ a2) (by rw [ByteArray.size_append]; unfold maxLen; omega))
  have H3 := Lib.hid (sum_is (a1 ++ a2) (by rw [ByteArray.size_append]; unfold maxLen; omega))
  generalize sum a0.data.toList = x0 at *
  generalize sum a1.data.toList = x1 at *
  generalize sum (a0 ++ a2).data.toList = x2 at *
  generalize sum (a1 ++ a2).data.toList = x3 at *
  clear s0 s1 s2 w0 w1 w2
  go_enter Try.func7, Try.ntmps7
  go_wp2_with fail
  refine (told_any _).mono ?_
  rintro e v1 ⟨rfl, rfl⟩
  go_wp2_with fail
  refine (sum_nine _).mono ?_
  rintro e v1 ⟨rfl, b1⟩
  go_wp2_with fail
  refine (H0.out _).mono ?_
  rintro e v2 ⟨rfl, b2⟩
  go_wp2_with fail
  refine (H1.out _).mono ?_
  rintro e v3 ⟨rfl, b3⟩
  go_wp2_with fail
  refine (H2.out _).mono ?_
  rintro e v4 ⟨rfl, b4⟩
  go_wp2_with fail
  refine (H3.out _).mono ?_
  rintro e v5 ⟨rfl, b5⟩
  go_wp2
  go_ret
  exact ⟨rfl, below2 (below2 (below2 (below2 b1 b2) b3) b4) b5⟩

theorem own : ownKnob Try.prog.godebug = none := by kernel_rfl
set_option maxRecDepth 100000 in
theorem lifted (os : Os) (started : os.Started) (H : Type) (enc : TypeId × Value → H) :
    ReturnsInHanded {} Try.checked os 7 .any (Rows.sumGoesOnSpec.pre6 enc Try.prog Try.f7 Rows.sumGoesOnRow.domain false) (Rows.sumGoesOnSpec.post enc Try.prog Try.f7 false true false false) := by
  refine returnsInHanded_of_change_sized (C := Try.checked) own started (by kernel_rfl) Try.func7
    (ChangeSpec.witness6 (enc := enc) (C := Try.checked) false ⟨#[], #[.string ByteArray.empty, .string ByteArray.empty, .string ByteArray.empty], []⟩ 8 (by kernel_rfl) (by kernel_rfl) (by kernel_rfl) (by kernel_rfl)) ?_
  intro W base args ds gs before hval0 hW hcnd hsz0 _
  have hval : ∀ (j : Nat) t v, Try.f7.params[j]? = some t → args[j]? = some v → Value.okWide Try.prog W .any base t v := hval0
  have hW' := hW
  obtain ⟨p, q, hA0, hV, rfl, hfz, hnd⟩ := hW
  have hA : DataW.TrodAll enc Try.prog W 0 (fun _ => true) true Try.f7.params.toList args.toList ds p := hA0
  have hsz : (DataW.weightsEach Try.prog (Try.f7.params.toList ++ Rows.sumGoesOnSpec.plain.varTypes Try.prog) (ds ++ gs)).all (· ≤ reachBytes) = true := hsz0
  rw [Try.params7] at hA hval hsz
  obtain ⟨v0, vs0, d0, ds0, p0, q0, hargs, rfl, rfl, h0, r0⟩ := trodAll_cons hA
  obtain ⟨v1, vs1, d1, ds1, p1, q1, rfl, rfl, rfl, h1, r1⟩ := trodAll_cons r0
  obtain ⟨v2, vs2, d2, ds2, p2, q2, rfl, rfl, rfl, h2, r2⟩ := trodAll_cons r1
  obtain ⟨rfl, rfl, rfl⟩ := trodAll_nil r2
  obtain rfl : args = #[v0, v1, v2] := by cases args; simp_all
  obtain ⟨rfl, rfl⟩ := trodVars_none hV
  obtain ⟨a0, rfl, rfl, rfl, w0⟩ := open_string Try.underlying9 (hval 0 9 v0 rfl rfl) h0
  obtain ⟨a1, rfl, rfl, rfl, w1⟩ := open_string Try.underlying9 (hval 1 9 v1 rfl rfl) h1
  obtain ⟨a2, rfl, rfl, rfl, w2⟩ := open_string Try.underlying9 (hval 2 9 v2 rfl rfl) h2
  have s0 : a0.data.toList.length ≤ reachBytes := sized_string hsz (j := 0) (t := 9) rfl rfl
  have s1 : a1.data.toList.length ≤ reachBytes := sized_string hsz (j := 1) (t := 9) rfl rfl
  have s2 : a2.data.toList.length ≤ reachBytes := sized_string hsz (j := 2) (t := 9) rfl rfl
  clear hA0 hval0
  refine (walk a0 a1 a2 w0 w1 w2 s0 s1 s2 W).mono fun e W' ⟨he, bel⟩ => ?_
  subst he
  exact ⟨_, rfl, _, _, _, [], _, [], hW', trodAll_mk1 (shut_bool Try.underlying4 _), (trodAll_cons_mk (shut_string Try.underlying9 w0) (trodAll_cons_mk (shut_string Try.underlying9 w1) (trodAll_cons_mk (shut_string Try.underlying9 w2) trodAll_mk0))), rfl, bel.frame _, fun h => by cases h⟩

theorem over : Rows.sumGoesOnRow.holds Try.pinned (OpenSpec.ofChange Rows.sumGoesOnSpec) :=
  OpenClaim.holds_of_wide 7 Try.f7 rfl rfl rfl rfl rfl rfl rfl ⟨rfl, rfl, rfl, rfl, rfl⟩ rfl rfl rfl rfl rfl (by kernel_rfl) Try.func7 (by kernel_rfl)
    (of_decide_eq_true (by kernel_rfl)) (by unfold Func.isWrapper; first | (rw [if_pos (by decide +kernel)]; kernel_rfl) | (rw [if_neg (by decide +kernel)]; exact ⟨rfl, rfl⟩))
    (fun os started H enc _ => lifted os started H enc)

theorem proved : Rows.SumGoesOnSaid := over
#print axioms proved
end Go.Proofs.Ytmiidfeckchjoab.sumGoesOn
