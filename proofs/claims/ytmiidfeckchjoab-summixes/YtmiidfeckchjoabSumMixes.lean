/- For every three strings a, b and c, the law SumMixes of the package brackenkeep returns true: cut to one length, the sum of their exclusive or is the exclusive or of their sums. No condition. -/
import Derived.Test.YtmiidfeckchjoabSumUse
import Derived.Test.YtmiidfeckchjoabOwn
import Derived.Laws.IdiomStrings
import Derived.RegionTactic
import Derived.BigRegion
import Derived.OpenShut
import Derived.ShutString
import Derived.SizedLaws
import Derived.ChangeOld
namespace Go.Proofs.Ytmiidfeckchjoab.sumMixes
open Go.ChangeShapes Go.WideShapes Go.ChangeAt Go.RowKit
open Go.ChangeMaps (open_string shut_string)
set_option linter.unusedVariables false

theorem mix_length : ∀ (a b c : List UInt8), a.length = b.length → b.length = c.length → (mix a b c).length = a.length
  | [], [], [], _, _ => rfl
  | _ :: a, _ :: b, _ :: c, h1, h2 => by simp only [mix, List.length_cons]; rw [mix_length a b c (by simpa using h1) (by simpa using h2)]
theorem mix_get : ∀ (a b c : List UInt8) (k : Nat) (x y z : UInt8), a[k]? = some x → b[k]? = some y → c[k]? = some z → (mix a b c)[k]? = some (x ^^^ y ^^^ z)
  | u :: a, v :: b, t :: c, 0, x, y, z, h1, h2, h3 => by simp at h1 h2 h3; simp [mix, h1, h2, h3]
  | u :: a, v :: b, t :: c, k + 1, x, y, z, h1, h2, h3 => by
    simp only [mix, List.getElem?_cons_succ] at *
    exact mix_get a b c k x y z h1 h2 h3
  | [], _, _, _, _, _, _, h1, _, _ => by simp at h1
  | _ :: _, [], _, _, _, _, _, _, h2, _ => by simp at h2
  | _ :: _, _ :: _, [], _, _, _, _, _, _, h3 => by simp at h3
/-- The row of mixed bytes, its first k places filled. -/
def fill (M : List UInt8) (n k : Nat) : List Value := byteCells (M.take k) ++ List.replicate (n - k) (.int .u8 0)
theorem fill_zero (M : List UInt8) (n : Nat) : fill M n 0 = List.replicate n (.int .u8 0) := by simp [fill, byteCells]
theorem fill_all (M : List UInt8) (n : Nat) (h : M.length = n) : fill M n n = byteCells M := by
  unfold fill; rw [List.take_of_length_le (by omega)]; simp
theorem fill_set (M : List UInt8) (n k : Nat) (m : UInt8) (h : M.length = n) (hk : k < n) (hm : M[k]? = some m) : (fill M n k).set k (.int .u8 (m.toNat : Int)) = fill M n (k + 1) := by
  have hl : (byteCells (M.take k)).length = k := by rw [byteCells_length, List.length_take]; omega
  have e : M.take (k + 1) = M.take k ++ [m] := by
    rw [List.take_add_one, hm]; rfl
  unfold fill
  rw [List.set_append_right _ _ (by omega), hl, Nat.sub_self, show n - k = (n - (k + 1)) + 1 from by omega, List.replicate_succ, List.set_cons_zero, e, byteCells_append]
  simp [byteCells]
theorem fill_at (M : List UInt8) (n k : Nat) (h : M.length = n) (hk : k < n) : (fill M n k)[k]? = some (.int .u8 0) := by
  have hl : (byteCells (M.take k)).length = k := by rw [byteCells_length, List.length_take]; omega
  unfold fill
  rw [List.getElem?_append_right (by omega), hl, Nat.sub_self, List.getElem?_replicate, if_pos (by omega)]
theorem xor3 (x y z : UInt8) : bits BinOp.xor IntKind.u8 (bits BinOp.xor IntKind.u8 (x.toNat : Int) (y.toNat : Int)) (z.toNat : Int) = ((x ^^^ y ^^^ z).toNat : Int) := by
  rw [u8_xor_nat _ _ (byte_lt x) (byte_lt y), u8_xor_nat _ _ (Nat.xor_lt_two_pow (n := 8) (byte_lt x) (byte_lt y)) (byte_lt z), UInt8.toNat_xor, UInt8.toNat_xor]
theorem xor_sums (x y z : Nat) (hx : x < 4294967296) (hy : y < 4294967296) (hz : z < 4294967296) : bits BinOp.xor IntKind.u32 (bits BinOp.xor IntKind.u32 (x : Int) (y : Int)) (z : Int) = ((x ^^^ y ^^^ z : Nat) : Int) := by
  rw [u32_xor_nat _ _ hx hy, u32_xor_nat _ _ (Nat.xor_lt_two_pow (n := 32) hx hy) hz]
theorem data_get (s : ByteArray) (k : Nat) (h : k < s.size) : s.data.toList[k]? = some s[k] := by
  rw [List.getElem?_eq_getElem (by simpa using h)]; rfl

set_option maxRecDepth 100000 in
set_option maxHeartbeats 1000000 in
theorem walk (a0 a1 a2 : ByteArray) (w0 : a0.size ≤ maxLen) (w1 : a1.size ≤ maxLen) (w2 : a2.size ≤ maxLen) (s0 : a0.data.toList.length ≤ reachBytes) (s1 : a1.data.toList.length ≤ reachBytes) (s2 : a2.data.toList.length ≤ reachBytes) (w : World) :
    Calls Try.prog 6 #[.string a0, .string a1, .string a2] w fun e w' => e = .returned (.bool true) ∧ Below w.heap.size w w' := by
  have t0 : a0.size ≤ 140737488351232 := by simpa [reachBytes] using s0
  obtain ⟨n, n0, n1, n2, hmin⟩ : ∃ n : Nat, n ≤ a0.size ∧ n ≤ a1.size ∧ n ≤ a2.size ∧ ∀ wx, Sem.run Try.prog (Builtin.min_ #[3, 3, 3] 3 #[.int .i64 (a0.size : Int), .int .i64 (a1.size : Int), .int .i64 (a2.size : Int)]) wx = .ok (.int .i64 (n : Int)) wx := by
    refine ⟨min (min a0.size a1.size) a2.size, by omega, by omega, by omega, fun wx => ?_⟩
    have e : (((min (min a0.size a1.size) a2.size : Nat) : Int)) = if (a2.size : Int) < (if (a1.size : Int) < (a0.size : Int) then (a1.size : Int) else (a0.size : Int)) then (a2.size : Int) else (if (a1.size : Int) < (a0.size : Int) then (a1.size : Int) else (a0.size : Int)) := by
      split <;> split <;> omega
    rw [e]
    simp [Builtin.min_, Builtin.min2]
  obtain ⟨p, hp⟩ : ∃ p, a0.extract 0 n = p := ⟨_, rfl⟩
  obtain ⟨q, hq⟩ : ∃ q, a1.extract 0 n = q := ⟨_, rfl⟩
  obtain ⟨r, hr⟩ : ∃ r, a2.extract 0 n = r := ⟨_, rfl⟩
  have HP : Hid (p.size = n) := by show _ = _; rw [← hp, ByteArray.size_extract]; omega
  have HQ : Hid (q.size = n) := by show _ = _; rw [← hq, ByteArray.size_extract]; omega
  have HR : Hid (r.size = n) := by show _ = _; rw [← hr, ByteArray.size_extract]; omega
  obtain ⟨M, hM⟩ : ∃ M, mix p.data.toList q.data.toList r.data.toList = M := ⟨_, rfl⟩
  have lp : p.data.toList.length = n := by simpa using HP.out
  have lq : q.data.toList.length = n := by simpa using HQ.out
  have lr : r.data.toList.length = n := by simpa using HR.out
  have HL : Hid (M.length = n) := by
    show _ = _
    rw [← hM, mix_length _ _ _ (by omega) (by omega), lp]
  have HG : Hid (∀ k (h0 : k < p.size) (h1 : k < q.size) (h2 : k < r.size), M[k]? = some (p[k] ^^^ q[k] ^^^ r[k])) := fun k h0 h1 h2 => by
    rw [← hM]; exact mix_get _ _ _ k _ _ _ (data_get p k h0) (data_get q k h1) (data_get r k h2)
  have hS : sum M = sum p.data.toList ^^^ sum q.data.toList ^^^ sum r.data.toList := by rw [← hM]; exact sum_mix _ _ _ (by omega) (by omega)
  have hX := xor_sums _ _ _ (sum_lt p.data.toList) (sum_lt q.data.toList) (sum_lt r.data.toList)
  rw [← hS] at hX
  have Hp := Lib.hid (sum_is p (by rw [HP.out]; unfold maxLen; omega))
  have Hq := Lib.hid (sum_is q (by rw [HQ.out]; unfold maxLen; omega))
  have Hr := Lib.hid (sum_is r (by rw [HR.out]; unfold maxLen; omega))
  have Hm := Lib.hid (sum_is ⟨M.toArray⟩ (by have := HL.out; simp [ByteArray.size]; unfold maxLen; omega))
  clear hM hS lp lq lr s0 s1 s2 w0 w1 w2
  generalize sum p.data.toList = x0 at *
  generalize sum q.data.toList = x1 at *
  generalize sum r.data.toList = x2 at *
  obtain ⟨i0, hi, hz0, hz1, hz2⟩ := info_parts Try.infoByte
  have Hi := Lib.hid hi
  have Hz0 := Lib.hid hz0
  have Hz1 := Lib.hid hz1
  have Hz2 := Lib.hid hz2
  clear hi hz0 hz1 hz2
  go_enter Try.func6, Try.ntmps6
  go_wp2_with fail
  go_region
  go_wp2_with (at_make; refine wpList_make_full _ rfl _ _ 30 rfl w.heap.size 5 i0 (.int .u8 0) 1 Try.underlying30 Hi.out Hz0.out Hz1.out .i64 .i64 _ _ n rfl rfl rfl rfl (by rw [Hz2.out]; omega) (by unfold maxLen; omega) (by simp) ?_)
  intro w1 hown hgrow
  have hb1 : Below w.heap.size w w1 := (Below.refl w.heap.size w).drew.grown hgrow (Nat.le_refl _) (fun k hk => by cases hk)
  have ho1 : w1.ownsRow w.heap.size 5 1 (.slice (some ⟨w.heap.size, 0, none⟩) n n) n (fill M n 0) := by
    rw [fill_zero, ← toList_madeCells_one]; exact hown
  clear hown hgrow Hi Hz0 Hz1 Hz2 hmin hp hq hr
  go_wp2_with fail
  go_loopw [30] (fun i wr => ∃ k : Nat, k ≤ n ∧ i = .int .i64 k ∧ wr.ownsRow w.heap.size 5 1 (.slice (some ⟨w.heap.size, 0, none⟩) n n) n (fill M n k) ∧ Below w.heap.size w wr) (fun i _ => n - (intOf i).toNat)
  case atStart => exact ⟨0, by omega, rfl, ho1, hb1⟩
  case round =>
    clear ho1 hb1
    obtain ⟨k, hk, rfl, hown, hbel⟩ := hrel
    by_cases hlt : k < n
    · have h0 : k < p.size := by rw [HP.out]; exact hlt
      have h1 : k < q.size := by rw [HQ.out]; exact hlt
      have h2 : k < r.size := by rw [HR.out]; exact hlt
      have hc : wr.cell? ⟨w.heap.size, k, none⟩ = some (.int .u8 0) := by
        rw [hown.cellAt k (by omega)]; exact fill_at M n k HL.out hlt
      have hf : wr.frozen? ⟨w.heap.size, k, none⟩ = false := hown.frozenAt k
      have hx := xor3 p[k] q[k] r[k]
      have HM := Lib.hid (fill_set M n k _ HL.out hlt (HG.out k h0 h1 h2))
      have HO := Lib.hid hown
      clear hown
      generalize p[k] ^^^ q[k] ^^^ r[k] = m at *
      go_wp2_with fail
      go_region
      go_wp2
      go_roundw
      case rel => exact ⟨k + 1, by omega, by go_num, by have h := (HO.out.stored k (.int .u8 (m.toNat : Int))).1; rw [HM.out] at h; exact h.drew, (hbel.setCell (Nat.le_refl _) _).drew⟩
      case measure => simp [intOf]; omega
    · obtain rfl : n = k := by omega
      rw [fill_all M n HL.out] at hown
      have HO := Lib.hid hown
      clear hown
      go_wp2_with fail
      refine (told_any _).mono ?_
      rintro e v1 ⟨rfl, rfl⟩
      go_wp2_with fail
      refine (sum_nine _).mono ?_
      rintro e v1 ⟨rfl, b1⟩
      have hcv := run_string_own M HL.out.symm (own_below HO.out b1)
      go_wp2_with fail
      refine (Hm.out _).mono ?_
      rintro e v2 ⟨rfl, b2⟩
      clear hcv
      have hX2 : (((sum M : Nat) : Int) == bits BinOp.xor IntKind.u32 (bits BinOp.xor IntKind.u32 (x0 : Int) (x1 : Int)) (x2 : Int)) = true := by rw [hX]; simp
      clear hX
      generalize sum M = x3 at *
      go_wp2_with fail
      refine (Hp.out _).mono ?_
      rintro e v3 ⟨rfl, b3⟩
      go_wp2_with fail
      refine (Hq.out _).mono ?_
      rintro e v4 ⟨rfl, b4⟩
      go_wp2_with fail
      refine (Hr.out _).mono ?_
      rintro e v5 ⟨rfl, b5⟩
      go_wp2
      go_ret
      exact ⟨rfl, hbel.trans ((below2 (below2 (below2 (below2 b1 b2) b3) b4) b5).mono hbel.size)⟩

theorem own : ownKnob Try.prog.godebug = none := by kernel_rfl
set_option maxRecDepth 100000 in
theorem lifted (os : Os) (started : os.Started) (H : Type) (enc : TypeId × Value → H) :
    ReturnsInHanded {} Try.checked os 6 .any (Rows.sumMixesSpec.pre6 enc Try.prog Try.f6 Rows.sumMixesRow.domain false) (Rows.sumMixesSpec.post enc Try.prog Try.f6 false true false false) := by
  refine returnsInHanded_of_change_sized (C := Try.checked) own started (by kernel_rfl) Try.func6
    (ChangeSpec.witness6 (enc := enc) (C := Try.checked) false ⟨#[], #[.string ByteArray.empty, .string ByteArray.empty, .string ByteArray.empty], []⟩ 8 (by kernel_rfl) (by kernel_rfl) (by kernel_rfl) (by kernel_rfl)) ?_
  intro W base args ds gs before hval0 hW hcnd hsz0 _
  have hval : ∀ (j : Nat) t v, Try.f6.params[j]? = some t → args[j]? = some v → Value.okWide Try.prog W .any base t v := hval0
  have hW' := hW
  obtain ⟨p, q, hA0, hV, rfl, hfz, hnd⟩ := hW
  have hA : DataW.TrodAll enc Try.prog W 0 (fun _ => true) true Try.f6.params.toList args.toList ds p := hA0
  have hsz : (DataW.weightsEach Try.prog (Try.f6.params.toList ++ Rows.sumMixesSpec.plain.varTypes Try.prog) (ds ++ gs)).all (· ≤ reachBytes) = true := hsz0
  rw [Try.params6] at hA hval hsz
  obtain ⟨v0, vs0, d0, ds0, p0, q0, hargs, rfl, rfl, h0, r0⟩ := trodAll_cons hA
  obtain ⟨v1, vs1, d1, ds1, p1, q1, rfl, rfl, rfl, h1, r1⟩ := trodAll_cons r0
  obtain ⟨v2, vs2, d2, ds2, p2, q2, rfl, rfl, rfl, h2, r2⟩ := trodAll_cons r1
  obtain ⟨rfl, rfl, rfl⟩ := trodAll_nil r2
  obtain rfl : args = #[v0, v1, v2] := by cases args; simp_all
  obtain ⟨rfl, rfl⟩ := trodVars_none hV
  obtain ⟨a0, rfl, rfl, rfl, w0⟩ := open_string Try.underlying9 (hval 0 9 v0 rfl rfl) h0
  obtain ⟨a1, rfl, rfl, rfl, w1⟩ := open_string Try.underlying9 (hval 1 9 v1 rfl rfl) h1
  obtain ⟨a2, rfl, rfl, rfl, w2⟩ := open_string Try.underlying9 (hval 2 9 v2 rfl rfl) h2
  have s0 : a0.data.toList.length ≤ reachBytes := sized_string hsz (j := 0) (t := 9) rfl rfl
  have s1 : a1.data.toList.length ≤ reachBytes := sized_string hsz (j := 1) (t := 9) rfl rfl
  have s2 : a2.data.toList.length ≤ reachBytes := sized_string hsz (j := 2) (t := 9) rfl rfl
  clear hA0 hval0
  refine (walk a0 a1 a2 w0 w1 w2 s0 s1 s2 W).mono fun e W' ⟨he, bel⟩ => ?_
  subst he
  exact ⟨_, rfl, _, _, _, [], _, [], hW', trodAll_mk1 (shut_bool Try.underlying4 _), (trodAll_cons_mk (shut_string Try.underlying9 w0) (trodAll_cons_mk (shut_string Try.underlying9 w1) (trodAll_cons_mk (shut_string Try.underlying9 w2) trodAll_mk0))), rfl, bel.frame _, fun h => by cases h⟩

theorem over : Rows.sumMixesRow.holds Try.pinned (OpenSpec.ofChange Rows.sumMixesSpec) :=
  OpenClaim.holds_of_wide 6 Try.f6 rfl rfl rfl rfl rfl rfl rfl ⟨rfl, rfl, rfl, rfl, rfl⟩ rfl rfl rfl rfl rfl (by kernel_rfl) Try.func6 (by kernel_rfl)
    (of_decide_eq_true (by kernel_rfl)) (by unfold Func.isWrapper; first | (rw [if_pos (by decide +kernel)]; kernel_rfl) | (rw [if_neg (by decide +kernel)]; exact ⟨rfl, rfl⟩))
    (fun os started H enc _ => lifted os started H enc)

theorem proved : Rows.SumMixesSaid := over
#print axioms proved
end Go.Proofs.Ytmiidfeckchjoab.sumMixes
