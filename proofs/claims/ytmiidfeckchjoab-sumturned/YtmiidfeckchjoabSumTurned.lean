/- For every string s, int at and byte c, the law SumTurned of the package brackenkeep returns true: a changed byte, and two neighbours that change places, always change the sum. No condition. -/
import Derived.Test.YtmiidfeckchjoabSumUse
import Derived.Laws.IdiomStrings
import Derived.RegionTactic
import Derived.BigRegion
import Derived.Deep.RegionHeld3
import Derived.OpenShut
import Derived.ShutString
import Derived.SizedLaws
import Derived.ChangeOld
namespace Go.Proofs.Ytmiidfeckchjoab.sumTurned
open Go.ChangeShapes Go.WideShapes Go.ChangeAt Go.RowKit
open Go.ChangeMaps (open_string shut_string)
set_option linter.unusedVariables false

theorem rest_emod (n m : Int) (h0 : 0 < m) : (0 ≤ n.tmod m → n.tmod m = n % m) ∧ (n.tmod m < 0 → n.tmod m + m = n % m) ∧ -m < n.tmod m := by
  have h1 := Int.emod_nonneg n (b := m) (by omega)
  have h2 := Int.emod_lt_of_pos n h0
  rw [Int.tmod_eq_emod]
  split
  · omega
  · omega
theorem rest_is (n m : Int) (h0 : 0 < m) (h1 : m ≤ 4611686018427387904) (w : World) :
    Calls Try.prog 12 #[.int .i64 n, .int .i64 m] w fun e w' => e = .returned (.int .i64 (n % m)) ∧ w = w' := by
  have hne : (m == 0) = false := beq_eq_false_iff_ne.2 (by omega)
  have hm := Lib.hid (rest_emod n m h0)
  obtain ⟨q, hq⟩ : ∃ q, n.tmod m = q := ⟨_, rfl⟩
  rw [hq] at hm
  by_cases h : q < 0
  · have hw : wrap64 (q + m) = q + m := by have := hm.out.2.2; unfold wrap64; omega
    have e : wrap64 (q + m) = n % m := by rw [hw]; exact hm.out.2.1 h
    have E := Lib.hid e
    clear e hw
    go_enter Try.func12, Try.ntmps12
    go_wp2
    go_ret
    exact ⟨by rw [← E.out]; rfl, rfl⟩
  · have e : q = n % m := hm.out.1 (by omega)
    have E := Lib.hid e
    clear e
    go_enter Try.func12, Try.ntmps12
    go_wp2
    go_ret
    exact ⟨by rw [← E.out]; rfl, rfl⟩
theorem bytes_eq {a b : ByteArray} : a.data.toList = b.data.toList ↔ a = b := ⟨bytes_inj, fun h => by rw [h]⟩
theorem ext_data (s : ByteArray) (i k : Nat) : (s.extract i k).data.toList = (s.data.toList.take k).drop i := by
  simp [ByteArray.data_extract, List.drop_take]
theorem data_at (s : ByteArray) (j : Nat) (h : j < s.size) : s.data.toList = s.data.toList.take j ++ s[j] :: s.data.toList.drop (j + 1) := by
  rw [← drop_at s j h]; simp
theorem cmp_of {a b : ByteArray} (h : sum a.data.toList = sum b.data.toList ↔ a = b) : ((sum a.data.toList : Int) == (sum b.data.toList : Int)) = (a.toList == b.toList) := by
  rw [ByteArray.toList_eq, ByteArray.toList_eq]
  by_cases hab : a = b
  · subst hab; simp
  · have h1 : ((sum a.data.toList : Int) == (sum b.data.toList : Int)) = false := beq_eq_false_iff_ne.2 (fun e => hab (h.1 (by omega)))
    have h2 : (a.data.toList == b.data.toList) = false := beq_eq_false_iff_ne.2 (fun e => hab (bytes_eq.1 e))
    rw [h1, h2]
theorem turned (s T : ByteArray) (j : Nat) (b : UInt8) (h : j < s.size) (hT : s.extract 0 j ++ ⟨#[b]⟩ ++ s.extract (j + 1) s.size = T) : sum T.data.toList = sum s.data.toList ↔ T = s := by
  have e1 : T.data.toList = s.data.toList.take j ++ b :: s.data.toList.drop (j + 1) := by
    subst hT
    have hsz : s.data.toList.take s.size = s.data.toList := List.take_of_length_le (by simp)
    simp only [Array.toList_append, ByteArray.data_append, ext_data, hsz]
    simp
  have e2 := data_at s j h
  rw [← bytes_eq, e1]
  conv => lhs; rhs; rw [e2]
  rw [sum_turned]
  conv => rhs; rhs; rw [e2]
  simp
theorem swapped (s T : ByteArray) (j : Nat) (h : j + 1 < s.size) (hT : s.extract 0 j ++ s.extract (j + 1) (j + 2) ++ s.extract j (j + 1) ++ s.extract (j + 2) s.size = T) : sum T.data.toList = sum s.data.toList ↔ T = s := by
  have e3 : s.data.toList.drop (j + 1) = s[j + 1] :: s.data.toList.drop (j + 2) := drop_at s (j + 1) h
  have e2 := data_at s j (by omega)
  rw [e3] at e2
  have e1 : T.data.toList = s.data.toList.take j ++ s[j + 1] :: s[j] :: s.data.toList.drop (j + 2) := by
    subst hT
    have hsz : s.data.toList.take s.size = s.data.toList := List.take_of_length_le (by simp)
    have d1 : (s.data.toList.take (j + 1)).drop j = [s[j]] := by
      rw [List.drop_take, drop_at s j (by omega)]; simp
    have d2 : (s.data.toList.take (j + 2)).drop (j + 1) = [s[j + 1]] := by
      rw [List.drop_take, e3]; simp
    simp only [Array.toList_append, ByteArray.data_append, ext_data, hsz, d1, d2]
    simp
  rw [← bytes_eq, e1]
  conv => lhs; rhs; rw [e2]
  rw [sum_swapped]
  conv => rhs; rhs; rw [e2]
  simp
  intro h; exact h.symm
theorem run_string_one (wx : World) (g : Nat) (b : UInt8) (h : wx.cell? ⟨g, 0, none⟩ = some (.int .u8 (b.toNat : Int))) : (convert 30 9 (.slice (some ⟨g, 0, none⟩) 1 1)).run Try.prog wx = .ok (.string ⟨#[b]⟩) wx := by
  refine run_convert_bytes_back wx _ _ 5 ⟨g, 0, none⟩ 1 [b] Try.underlying30 Try.underlying5 Try.underlying9 ?_
  intro j hj
  obtain rfl : j = 0 := by simp at hj; omega
  simpa [Addr.add] using h

set_option maxRecDepth 100000 in
set_option maxHeartbeats 1000000 in
theorem walk (a0 : ByteArray) (a1 a2 : Int) (w0 : a0.size ≤ maxLen) (w1 : (Lit.int .i64 a1).wf = true) (w2 : (Lit.int .u8 a2).wf = true) (s0 : a0.data.toList.length ≤ reachBytes) (w : World) :
    Calls Try.prog 5 #[.string a0, .int .i64 a1, .int .u8 a2] w fun e w' => e = .returned (.bool true) ∧ Below w.heap.size w w' := by
  have t0 : a0.size ≤ 140737488351232 := by simpa [reachBytes] using s0
  clear s0
  have hb2 : 0 ≤ a2 ∧ a2 ≤ 255 := by
    simp [Lit.wf, IntKind.min, IntKind.max, IntKind.signed, IntKind.bits] at w2; omega
  obtain ⟨b, hb⟩ : ∃ b : UInt8, a2 = (b.toNat : Int) := ⟨UInt8.ofNat a2.toNat, by simp; omega⟩
  subst hb
  clear hb2 w2
  by_cases h0 : a0.size = 0
  · have he : sum a0.data.toList = 0 := by
      have : a0.data.toList = [] := by apply List.eq_nil_of_length_eq_zero; simpa using h0
      rw [this, sum_nil]
    have H0 := Lib.hid (sum_val a0 0 he w0)
    have hz : ((a0.size : Int) == 0) = true := beq_iff_eq.2 (by omega)
    clear he h0
    go_enter Try.func5, Try.ntmps5
    go_wp2_with fail
    refine (told_any _).mono ?_
    rintro e v1 ⟨rfl, rfl⟩
    go_wp2_with fail
    refine (sum_nine _).mono ?_
    rintro e v1 ⟨rfl, b1⟩
    go_wp2_with fail
    refine (H0.out _).mono ?_
    rintro e v2 ⟨rfl, b2⟩
    go_wp2
    go_ret
    exact ⟨rfl, below2 b1 b2⟩
  · have hz : ((a0.size : Int) == 0) = false := beq_eq_false_iff_ne.2 (by omega)
    obtain ⟨j, hj, hj2⟩ : ∃ j : Nat, a1 % (a0.size : Int) = (j : Int) ∧ j < a0.size := by
      have h1 := Int.emod_nonneg a1 (b := (a0.size : Int)) (by omega)
      have h2 := Int.emod_lt_of_pos a1 (b := (a0.size : Int)) (by omega)
      exact ⟨(a1 % (a0.size : Int)).toNat, by omega, by omega⟩
    have HR := Lib.hid (rest_is a1 a0.size (by omega) (by omega))
    rw [hj] at HR
    have H0 := Lib.hid (sum_is a0 w0)
    have hcv := fun wx g => run_string_one wx g b
    obtain ⟨T, hT⟩ : ∃ T, a0.extract 0 j ++ ⟨#[b]⟩ ++ a0.extract (j + 1) a0.size = T := ⟨_, rfl⟩
    have hTs : T.size ≤ maxLen := by
      rw [← hT, ByteArray.size_append, ByteArray.size_append, ByteArray.size_extract, ByteArray.size_extract]
      have : (⟨#[b]⟩ : ByteArray).size = 1 := rfl
      unfold maxLen; omega
    have HT := Lib.hid (sum_is T hTs)
    have hcT := cmp_of (turned a0 T j b hj2 hT)
    clear h0 w1 hj
    by_cases hl : j + 1 = a0.size
    · have hl' : ((j : Int) + 1 == (a0.size : Int)) = true := beq_iff_eq.2 (by omega)
      clear hl
      generalize sum a0.data.toList = x0 at *
      generalize sum T.data.toList = x1 at *
      go_enter Try.func5, Try.ntmps5
      go_wp2_with fail
      refine (told_any _).mono ?_
      rintro e v1 ⟨rfl, rfl⟩
      go_wp2_with fail
      refine (sum_nine _).mono ?_
      rintro e v1 ⟨rfl, b1⟩
      go_wp2_with fail
      refine (HR.out _).mono ?_
      rintro e v2 ⟨rfl, rfl⟩
      go_wp2_with fail
      go_region
      have b2 : Below v1.heap.size v1 (v1.alloc (.cells #[.int .u8 (b.toNat : Int)] 5)).drew := ((Below.refl _ _).alloc (Nat.le_refl _) _).drew
      go_wp2_with fail
      refine (HT.out _).mono ?_
      rintro e v3 ⟨rfl, b3⟩
      go_wp2_with fail
      refine (H0.out _).mono ?_
      rintro e v4 ⟨rfl, b4⟩
      go_wp2
      go_ret
      exact ⟨rfl, below2 (below2 (below2 b1 b2) b3) b4⟩
    · have hl' : ((j : Int) + 1 == (a0.size : Int)) = false := beq_eq_false_iff_ne.2 (by omega)
      have hl2 : j + 1 < a0.size := by omega
      obtain ⟨U, hU⟩ : ∃ U, a0.extract 0 j ++ a0.extract (j + 1) (j + 2) ++ a0.extract j (j + 1) ++ a0.extract (j + 2) a0.size = U := ⟨_, rfl⟩
      have hUs : U.size ≤ maxLen := by
        rw [← hU, ByteArray.size_append, ByteArray.size_append, ByteArray.size_append, ByteArray.size_extract, ByteArray.size_extract, ByteArray.size_extract, ByteArray.size_extract]
        unfold maxLen; omega
      have HU := Lib.hid (sum_is U hUs)
      have hcU := cmp_of (swapped a0 U j hl2 hU)
      clear hl
      generalize sum a0.data.toList = x0 at *
      generalize sum T.data.toList = x1 at *
      generalize sum U.data.toList = x2 at *
      go_enter Try.func5, Try.ntmps5
      go_wp2_with fail
      refine (told_any _).mono ?_
      rintro e v1 ⟨rfl, rfl⟩
      go_wp2_with fail
      refine (sum_nine _).mono ?_
      rintro e v1 ⟨rfl, b1⟩
      go_wp2_with fail
      refine (HR.out _).mono ?_
      rintro e v2 ⟨rfl, rfl⟩
      go_wp2_with fail
      go_region
      have b2 : Below v1.heap.size v1 (v1.alloc (.cells #[.int .u8 (b.toNat : Int)] 5)).drew := ((Below.refl _ _).alloc (Nat.le_refl _) _).drew
      go_wp2_with fail
      refine (HT.out _).mono ?_
      rintro e v3 ⟨rfl, b3⟩
      go_wp2_with fail
      refine (H0.out _).mono ?_
      rintro e v4 ⟨rfl, b4⟩
      go_wp2_with fail
      go_region
      have b5 : Below v4.heap.size v4 v4.drew := (Below.refl _ _).drew
      go_wp2_with fail
      refine (HU.out _).mono ?_
      rintro e v6 ⟨rfl, b6⟩
      go_wp2_with fail
      refine (H0.out _).mono ?_
      rintro e v7 ⟨rfl, b7⟩
      go_wp2
      go_ret
      exact ⟨rfl, below2 (below2 (below2 (below2 (below2 (below2 b1 b2) b3) b4) b5) b6) b7⟩

theorem own : ownKnob Try.prog.godebug = none := by kernel_rfl
set_option maxRecDepth 100000 in
theorem lifted (os : Os) (started : os.Started) (H : Type) (enc : TypeId × Value → H) :
    ReturnsInHanded {} Try.checked os 5 .any (Rows.sumTurnedSpec.pre6 enc Try.prog Try.f5 Rows.sumTurnedRow.domain false) (Rows.sumTurnedSpec.post enc Try.prog Try.f5 false true false false) := by
  refine returnsInHanded_of_change_sized (C := Try.checked) own started (by kernel_rfl) Try.func5
    (ChangeSpec.witness6 (enc := enc) (C := Try.checked) false ⟨#[], #[.string ByteArray.empty, .int .i64 0, .int .u8 0], []⟩ 8 (by kernel_rfl) (by kernel_rfl) (by kernel_rfl) (by kernel_rfl)) ?_
  intro W base args ds gs before hval0 hW hcnd hsz0 _
  have hval : ∀ (j : Nat) t v, Try.f5.params[j]? = some t → args[j]? = some v → Value.okWide Try.prog W .any base t v := hval0
  have hW' := hW
  obtain ⟨p, q, hA0, hV, rfl, hfz, hnd⟩ := hW
  have hA : DataW.TrodAll enc Try.prog W 0 (fun _ => true) true Try.f5.params.toList args.toList ds p := hA0
  have hsz : (DataW.weightsEach Try.prog (Try.f5.params.toList ++ Rows.sumTurnedSpec.plain.varTypes Try.prog) (ds ++ gs)).all (· ≤ reachBytes) = true := hsz0
  rw [Try.params5] at hA hval hsz
  obtain ⟨v0, vs0, d0, ds0, p0, q0, hargs, rfl, rfl, h0, r0⟩ := trodAll_cons hA
  obtain ⟨v1, vs1, d1, ds1, p1, q1, rfl, rfl, rfl, h1, r1⟩ := trodAll_cons r0
  obtain ⟨v2, vs2, d2, ds2, p2, q2, rfl, rfl, rfl, h2, r2⟩ := trodAll_cons r1
  obtain ⟨rfl, rfl, rfl⟩ := trodAll_nil r2
  obtain rfl : args = #[v0, v1, v2] := by cases args; simp_all
  obtain ⟨rfl, rfl⟩ := trodVars_none hV
  obtain ⟨a0, rfl, rfl, rfl, w0⟩ := open_string Try.underlying9 (hval 0 9 v0 rfl rfl) h0
  obtain ⟨a1, rfl, rfl, rfl, w1⟩ := open_int Try.underlying3 (hval 1 3 v1 rfl rfl) h1
  obtain ⟨a2, rfl, rfl, rfl, w2⟩ := open_int Try.underlying5 (hval 2 5 v2 rfl rfl) h2
  have s0 : a0.data.toList.length ≤ reachBytes := sized_string hsz (j := 0) (t := 9) rfl rfl
  clear hA0 hval0
  refine (walk a0 a1 a2 w0 w1 w2 s0 W).mono fun e W' ⟨he, bel⟩ => ?_
  subst he
  exact ⟨_, rfl, _, _, _, [], _, [], hW', trodAll_mk1 (shut_bool Try.underlying4 _), (trodAll_cons_mk (shut_string Try.underlying9 w0) (trodAll_cons_mk (shut_int Try.underlying3 w1) (trodAll_cons_mk (shut_int Try.underlying5 w2) trodAll_mk0))), rfl, bel.frame _, fun h => by cases h⟩

theorem over : Rows.sumTurnedRow.holds Try.pinned (OpenSpec.ofChange Rows.sumTurnedSpec) :=
  OpenClaim.holds_of_wide 5 Try.f5 rfl rfl rfl rfl rfl rfl rfl ⟨rfl, rfl, rfl, rfl, rfl⟩ rfl rfl rfl rfl rfl (by kernel_rfl) Try.func5 (by kernel_rfl)
    (of_decide_eq_true (by kernel_rfl)) (by unfold Func.isWrapper; first | (rw [if_pos (by decide +kernel)]; kernel_rfl) | (rw [if_neg (by decide +kernel)]; exact ⟨rfl, rfl⟩))
    (fun os started H enc _ => lifted os started H enc)

theorem proved : Rows.SumTurnedSaid := over
#print axioms proved
end Go.Proofs.Ytmiidfeckchjoab.sumTurned
