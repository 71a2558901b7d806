/- For every two strings (of at most 1048576 letters together) the law JSONParts of the package brackenkeep returns true, as a tied card: a text is quoted part by part. Conditions: the bound on the bulk; the library's variables start as their text lays them (the card ties them; utf8.first is pinned). -/
import Derived.Test.YthbgaphidojneaaDoorJsLaid
import Derived.Test.YthbgaphidojneaaDoorJsRQuote
import Derived.Test.YthbgaphidojneaaDoorUpto
import Derived.JoinedCond
import Derived.Deep.QuietTactic
import Derived.BigQuiet
namespace Go.Proofs.YthbgaphidojneaaDoor.jSONParts
open Go.ChangeShapes Go.WideShapes Go.ChangeAt Go.RowKit
open Go.ChangeMaps (open_string shut_string)
set_option linter.unusedVariables false

theorem head_of (l : List UInt8) (x : ByteArray) (hx : baL (l ++ [34]) = x) : x.extract 0 (x.size - 1) = baL l := by
  subst hx
  apply ByteArray.ext
  apply Array.ext'
  have h1 := Lib.extract_toList (baL (l ++ [34])) 0 ((baL (l ++ [34])).size - 1)
  rw [toList_data] at h1
  rw [h1, baL_size]
  simp [baL]
theorem tail_of (l : List UInt8) (x : ByteArray) (hx : baL (34 :: l) = x) : x.extract 1 x.size = baL l := by
  subst hx
  apply ByteArray.ext
  apply Array.ext'
  have h1 := Lib.extract_toList (baL (34 :: l)) 1 (baL (34 :: l)).size
  rw [toList_data] at h1
  rw [h1, baL_size]
  simp [baL]
set_option maxRecDepth 100000 in
set_option maxHeartbeats 2000000 in
theorem walk (a0 a1 : ByteArray) (w0 : a0.size ≤ maxLen) (w1 : a1.size ≤ maxLen) (s0 : a0.size ≤ 1048576) (s1 : a1.size ≤ 1048576) (w : World) (hT : JTabs w) :
    Calls Tryd.prog 5 #[.string a0, .string a1] w fun e w' => e = .returned (.bool true) ∧ Below w.heap.size w w' := by
  have HPr := Lib.hid (printed_is w hT)
  obtain ⟨c, hc⟩ : ∃ c, a0 ++ a1 = c := ⟨_, rfl⟩
  have hcs : c.size = a0.size + a1.size := by rw [← hc, ByteArray.size_append]
  have H1 := Lib.hid (fun w' => quote_is a0 (by omega) w')
  have H2 := Lib.hid (fun w' => quote_is a1 (by omega) w')
  have H3 := Lib.hid (fun w' => quote_is c (by omega) w')
  have ec : c.data.toList = a0.data.toList ++ a1.data.toList := by rw [← hc]; simp
  rw [ec] at H3
  have l0 := esc_len a0.data.toList
  have l1 := esc_len a1.data.toList
  have g0 : a0.data.toList.length = a0.size := by rw [Array.length_toList]; rfl
  have g1 : a1.data.toList.length = a1.size := by rw [Array.length_toList]; rfl
  have eX : baL ((34 :: escL a0.data.toList) ++ [34]) = baL (quoteL a0.data.toList) := rfl
  have eY : baL (34 :: (escL a1.data.toList ++ [34])) = baL (quoteL a1.data.toList) := rfl
  have eZ : baL (34 :: escL a0.data.toList) ++ baL (escL a1.data.toList ++ [34]) = baL (quoteL (a0.data.toList ++ a1.data.toList)) := by
    rw [← baL_app]; unfold quoteL; rw [esc_append]; simp
  have zX : (baL (quoteL a0.data.toList)).size = (escL a0.data.toList).length + 2 := by rw [baL_size]; simp [quoteL]
  have zY : (baL (quoteL a1.data.toList)).size = (escL a1.data.toList).length + 2 := by rw [baL_size]; simp [quoteL]
  generalize baL (quoteL a0.data.toList) = X at *
  generalize baL (quoteL a1.data.toList) = Y at *
  generalize baL (quoteL (a0.data.toList ++ a1.data.toList)) = Z at *
  have hX := head_of _ X eX
  have hY := tail_of _ Y eY
  have zA : (baL (34 :: escL a0.data.toList)).size = X.size - 1 := by rw [baL_size, zX]; simp
  have zB : (baL (escL a1.data.toList ++ [34])).size = Y.size - 1 := by rw [baL_size, zY]; simp
  generalize baL (34 :: escL a0.data.toList) = A at *
  generalize baL (escL a1.data.toList ++ [34]) = B at *
  have q1 : (1 : Int) < (X.size : Int) := by omega
  have q2 : (1 : Int) < (Y.size : Int) := by omega
  have q3 : ¬ (9223372036854775807 < A.size + B.size) := by omega
  have q4 : (Z.toList == Z.toList) = true := by simp
  have bx : X.size ≤ 10000000 := by omega
  have by' : Y.size ≤ 10000000 := by omega
  clear zX zY eX eY l0 l1 g0 g1 ec hcs zA zB hT
  go_enter Tryd.func5, Tryd.ntmps5
  go_wp2_with fail
  refine HPr.out.mono ?_
  rintro e u0 ⟨rfl, b0⟩
  go_wp2_with fail
  refine (H1.out _).mono ?_
  rintro e u1 ⟨rfl, b1⟩
  go_wp2_with fail
  refine (H2.out _).mono ?_
  rintro e u2 ⟨rfl, b2⟩
  go_wp2_with fail
  refine (H3.out _).mono ?_
  rintro e u3 ⟨rfl, b3⟩
  have B3 := Lib.hid (below_trans (below_trans (below_trans b0 b1 b0.size) b2 (Nat.le_trans b0.size b1.size)) b3 (Nat.le_trans b0.size (Nat.le_trans b1.size b2.size)))
  clear b0 b1 b2 b3 H1 H2 H3 HPr
  go_wp2_with fail
  go_quiet (fail)
  go_wp2
  go_ret
  exact ⟨rfl, belowN B3.out _⟩
theorem own : ownKnob Tryd.prog.godebug = none := by kernel_rfl
theorem laid_met (os : Os) : laidMet Tryd.prog Rows.jSONPartsUptoRow.laid ((jlaidWorld os).forCall (fun _ _ => 0) ⟨#[], #[.string ⟨#[]⟩, .string ⟨#[]⟩], []⟩).memory :=
  laidMet_of_run' 8 (by kernel_rfl) (by kernel_rfl)
theorem reads (os : Os) {H : Type} (enc : TypeId × Value → H) : ∃ places, DataW.whole enc Tryd.prog ((jlaidWorld os).forCall (fun _ _ => 0) ⟨#[], #[.string ⟨#[]⟩, .string ⟨#[]⟩], []⟩).memory Tryd.f5.params.toList Rows.jSONPartsSpec.vars false #[Value.string ⟨#[]⟩, Value.string ⟨#[]⟩].toList 8 = some ([.lit (.string []), .lit (.string [])], [], places) :=
  ⟨[], by kernel_rfl⟩
set_option maxRecDepth 100000 in
set_option maxHeartbeats 2000000 in
theorem lifted (os : Os) (started : os.Started) (H : Type) (enc : TypeId × Value → H) (F : Stop.Interp) :
    ReturnsInHanded {} Tryd.checked os 5 .any ((Rows.OpenSpec.upto Rows.jSONPartsSpec).preRow enc Tryd.prog Tryd.f5 Rows.jSONPartsUptoRow.domain false Rows.jSONPartsUptoRow.laid) (((Rows.OpenSpec.upto Rows.jSONPartsSpec).at F).post enc Tryd.prog Tryd.f5 false true false false) := by
  obtain ⟨places, hx⟩ := reads os enc
  refine returnsInHanded_of_row (C := Tryd.checked) (s := (Rows.OpenSpec.upto Rows.jSONPartsSpec)) own started (by kernel_rfl) Tryd.func5
    (witness_row_atRef (enc := enc) (C := Tryd.checked) false (jlaidWorld os) #[.string ⟨#[]⟩, .string ⟨#[]⟩] rfl (by kernel_rfl) (by kernel_rfl) (by kernel_rfl)
      (OpenSpec.preRow_of_cond 8 hx (by kernel_rfl) (fun k hk => by cases hk; kernel_rfl) (by kernel_rfl) (laid_met os))) ?_
  intro W base args ds gs before hval0 hW _ hk1 hsz0 hL hSh _
  have hval : ∀ (j : Nat) t v, Tryd.f5.params[j]? = some t → args[j]? = some v → Value.okWide Tryd.prog W .any base t v := hval0
  have hW' := hW
  obtain ⟨p, q, hA0, hV, rfl, hfz, hnd⟩ := hW
  have hA : DataW.TrodAll enc Tryd.prog W 0 (fun _ => true) true Tryd.f5.params.toList args.toList ds p := hA0
  rw [Tryd.params5] at hA hval
  obtain ⟨v0, vs0, d0, ds0, p0, q0, hargs, rfl, rfl, h0, r0⟩ := trodAll_cons hA
  obtain ⟨v1, vs1, d1, ds1, p1, q1, rfl, rfl, rfl, h1, r1⟩ := trodAll_cons r0
  obtain ⟨rfl, rfl, rfl⟩ := trodAll_nil r1
  obtain rfl : args = #[v0, v1] := by cases args; simp_all
  obtain ⟨rfl, rfl⟩ := trodVars_none hV
  have hk := hk1 _ rfl
  obtain ⟨a0, rfl, rfl, rfl, w0⟩ := open_string Tryd.underlying9 (hval 0 9 v0 rfl rfl) h0
  obtain ⟨a1, rfl, rfl, rfl, w1⟩ := open_string Tryd.underlying9 (hval 1 9 v1 rfl rfl) h1
  have s0 : a0.size ≤ 1048576 := upto_string hk (j := 0) rfl
  have s1 : a1.size ≤ 1048576 := upto_string hk (j := 1) rfl
  clear hA0 hval0
  refine (walk a0 a1 w0 w1 s0 s1 W (jtabs_of hL hSh)).mono fun e W' ⟨he, bel⟩ => ?_
  subst he
  exact ⟨_, rfl, _, _, _, [], _, [], hW', trodAll_mk1 (shut_bool Tryd.underlying4 _), (trodAll_cons_mk (shut_string Tryd.underlying9 w0) (trodAll_cons_mk (shut_string Tryd.underlying9 w1) trodAll_mk0)), rfl, bel.frame _, fun h => by cases h⟩
theorem said : Rows.JSONPartsUptoSaid :=
  OpenClaim.holds_of_cond 5 Tryd.f5 rfl rfl rfl rfl rfl rfl rfl ⟨rfl, rfl, rfl, rfl, rfl⟩ rfl rfl rfl rfl rfl (by kernel_rfl) Tryd.func5 (by kernel_rfl)
    (of_decide_eq_true (by kernel_rfl)) (by unfold Func.isWrapper; first | (rw [if_pos (by decide +kernel)]; kernel_rfl) | (rw [if_neg (by decide +kernel)]; exact ⟨rfl, rfl⟩))
    (fun os started H enc _ F => by rw [OpenClaim.pre_eq_preRow]; exact lifted os started H enc F)
theorem plain (f : FuncId) (fn : Func) (hf : Tryd.pinned.checked.prog.funcNamed Rows.jSONPartsUptoRow.func = some f) (hfn : Tryd.pinned.checked.prog.funcs[f]? = some fn) :
    false = Tryd.pinned.checked.prog.looks [] ∧ ∀ (j : Nat) t, fn.params[j]? = some t → Tryd.pinned.checked.prog.wantsStandIn t = false := by
  obtain rfl : f = 5 := Option.some.inj ((show Tryd.prog.funcNamed Rows.jSONPartsUptoRow.func = some 5 by kernel_rfl).symm.trans hf) |>.symm
  obtain rfl : fn = Tryd.f5 := (Option.some.inj (Tryd.func5.symm.trans hfn)).symm
  refine ⟨by kernel_rfl, fun j t ht => ?_⟩
  rw [Tryd.params5] at ht
  obtain rfl : t = 9 := by simpa using Array.mem_of_getElem? ht
  exact (show Tryd.prog.wantsStandIn 9 = false by kernel_rfl)
theorem proved : Rows.JSONPartsUptoCardSaid :=
  Claim7.holds_tied_plain_at .later [] _ _ _ _ said (fun _ h => by cases h) (by kernel_rfl) (fun _ h => by cases h) jSONPartsUpto_row_tie rfl ⟨rfl, rfl⟩ (by kernel_rfl) rfl plain (by kernel_rfl)
#print axioms proved
end Go.Proofs.YthbgaphidojneaaDoor.jSONParts
