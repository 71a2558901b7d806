/- For every two strings s and more, the law TextBack of the package brackenkeep returns true, as a tied card: a text is read as it was told, whatever follows, and what is read is told so. Condition: the library's two tables unicode/utf8.first and acceptRanges start as their text lays them (the card ties them; first is pinned). -/
import Derived.Test.YtmiidfeckchjoaaDoorLaid
namespace Go.Proofs.YtmiidfeckchjoaaDoor.textBack
open Go.ChangeShapes Go.WideShapes Go.ChangeAt Go.RowKit
open Go.ChangeMaps (open_string shut_string)
open Go.Lib (validD)
set_option linter.unusedVariables false

theorem bytes_eq {a b : ByteArray} (h : a.data.toList = b.data.toList) : a = b := bytes_inj h
theorem ext_data (s : ByteArray) (i k : Nat) : (s.extract i k).data.toList = (s.data.toList.take k).drop i := by
  simp [ByteArray.data_extract, List.drop_take]
/-- What Text answers: a text's bytes, or nothing and an error. -/
theorem txt_cases (s : ByteArray) : (s.size ≤ 16 ∧ validD s.data.toList = true ∧ txt s = (numS s.size ++ s, 0)) ∨ ∃ c, c ≠ 0 ∧ txt s = (⟨#[]⟩, c) := by
  unfold txt
  by_cases h : 16 < s.size
  · exact .inr ⟨2, by omega, by rw [if_pos h]⟩
  · by_cases hv : validD s.data.toList = true
    · exact .inl ⟨by omega, hv, by rw [if_neg h, if_pos hv]⟩
    · exact .inr ⟨4, by omega, by rw [if_neg h, if_neg hv]⟩
theorem read_text (s m : ByteArray) (h : s.size ≤ 16) (hv : validD s.data.toList = true) : rdT (numS s.size ++ s ++ m) = (s, (numS s.size ++ s).size, 0) := by
  have hd : (numS s.size ++ s ++ m).data.toList = num s.size ++ (s.data.toList ++ m.data.toList) := by rw [app_data, app_data, numS_data, List.append_assoc]
  have hr := rd_num (n := s.size) (by omega) (s.data.toList ++ m.data.toList)
  have hx : (numS s.size ++ s ++ m).extract (num s.size).length ((num s.size).length + s.size) = s := by
    apply bytes_eq
    rw [ext_data, hd, List.drop_take]
    simp
  have hsz : (numS s.size ++ s ++ m).size = (num s.size).length + s.size + m.size := by rw [ByteArray.size_append, ByteArray.size_append, numS_size]
  unfold rdT
  rw [hd, hr]
  simp only
  rw [if_neg (by simp), if_neg (by omega), if_neg (by omega), hx, if_pos hv, ByteArray.size_append, numS_size]
/-- What ReadText answers: an error and nothing, or a text whose bytes are those read. -/
theorem rdT_cases (m : ByteArray) : (∃ U K, rdT m = (U, K, 0) ∧ K ≤ m.size ∧ U.size ≤ 16 ∧ txt U = (m.extract 0 K, 0)) ∨ ∃ c, c ≠ 0 ∧ rdT m = (⟨#[]⟩, 0, c) := by
  unfold rdT
  obtain ⟨N, k, c, hr⟩ : ∃ N k c, rd m.data.toList = (N, k, c) := ⟨_, _, _, rfl⟩
  rw [hr]
  simp only
  by_cases hc : c = 0
  · subst hc
    rw [if_neg (by simp)]
    have ho := rd_ok (l := m.data.toList) (by rw [hr])
    rw [hr] at ho
    simp only at ho
    by_cases h16 : 16 < N
    · exact .inr ⟨2, by omega, by rw [if_pos h16]⟩
    · rw [if_neg h16]
      by_cases hl : m.size < k + N
      · exact .inr ⟨3, by omega, by rw [if_pos hl]⟩
      · rw [if_neg hl]
        by_cases hv : validD (m.extract k (k + N)).data.toList = true
        · left
          refine ⟨m.extract k (k + N), k + N, by rw [if_pos hv], by omega, by rw [ByteArray.size_extract]; omega, ?_⟩
          have hs : (m.extract k (k + N)).size = N := by rw [ByteArray.size_extract]; omega
          unfold txt
          rw [hs, if_neg h16, if_pos hv]
          congr 1
          apply bytes_eq
          rw [app_data, numS_data, ho.2.2.2.1, ext_data, ext_data, List.drop_zero, List.drop_take]
          rw [show k + N - k = N from by omega, List.take_add]
        · exact .inr ⟨4, by omega, by rw [if_neg hv]⟩
  · exact .inr ⟨c, hc, by rw [if_pos hc]⟩

theorem below2 {a b c : World} (h1 : Below a.heap.size a b) (h2 : Below b.heap.size b c) : Below a.heap.size a c := h1.trans (h2.mono h1.size)
theorem text_as (s T : ByteArray) (c : Nat) (h : txt s = (T, c)) (hs : s.size ≤ 140737488355328) (w : World) (hT : Tabs w) :
    Calls Tryd.prog 6 #[.string s] w fun e w' => e = .returned (.tuple #[.string T, .int .i64 c]) ∧ Below w.heap.size w w' := by
  have := text_any s hs w hT
  rwa [h] at this
theorem readText_as (s T : ByteArray) (k c : Nat) (h : rdT s = (T, k, c)) (hs : s.size ≤ 140737488355328) (w : World) (hT : Tabs w) :
    Calls Tryd.prog 9 #[.string s] w fun e w' => e = .returned (.tuple #[.string T, .int .i64 k, .int .i64 c]) ∧ Below w.heap.size w w' := by
  have := readText_any s hs w hT
  rwa [h] at this
set_option maxRecDepth 100000 in
set_option maxHeartbeats 2000000 in
theorem walk (a0 a1 : ByteArray) (w0 : a0.size ≤ maxLen) (w1 : a1.size ≤ maxLen) (s0 : a0.data.toList.length ≤ reachBytes) (s1 : a1.data.toList.length ≤ reachBytes) (w : World) (hT : Tabs w) :
    Calls Tryd.prog 5 #[.string a0, .string a1] w fun e w' => e = .returned (.bool true) ∧ Below w.heap.size w w' := by
  have t0 := reach_size s0
  have t1 := reach_size s1
  clear s0 s1 w0 w1
  have HT := Lib.hid hT
  clear hT
  rcases txt_cases a0 with ⟨h16, hv, ht⟩ | ⟨c, hc, ht⟩
  · have hr := read_text a0 a1 h16 hv
    have hl : (numS a0.size).size ≤ 10 := by rw [numS_size]; exact num_len10 (by omega)
    have H1 := Lib.hid (text_as a0 _ 0 ht (by omega))
    have hTs : (numS a0.size ++ a0).size ≤ 26 := by rw [ByteArray.size_append]; omega
    have H2 := Lib.hid (readText_as _ _ _ 0 hr (by rw [ByteArray.size_append]; omega))
    clear hr hl ht hv h16
    generalize numS a0.size ++ a0 = T at *
    rcases rdT_cases a1 with ⟨U, K, hu, hK, hU, htu⟩ | ⟨d, hd, hu⟩
    · have H3 := Lib.hid (readText_as a1 _ _ 0 hu (by omega))
      have H4 := Lib.hid (text_as U _ 0 htu (by omega))
      clear hu htu
      go_enter Tryd.func5, Tryd.ntmps5
      go_wp2_with fail
      refine (told_any _).mono ?_
      rintro e v0 ⟨rfl, rfl⟩
      go_wp2_with fail
      refine (H1.out _ HT.out).mono ?_
      rintro e v1 ⟨rfl, b1⟩
      have B1 := Lib.hid b1
      clear b1
      go_wp2_with fail
      refine (H2.out _ (HT.out.below B1.out)).mono ?_
      rintro e v2 ⟨rfl, b2⟩
      have B2 := Lib.hid (below2 B1.out b2)
      clear b2
      go_wp2_with fail
      refine (H3.out _ (HT.out.below B2.out)).mono ?_
      rintro e v3 ⟨rfl, b3⟩
      have B3 := Lib.hid (below2 B2.out b3)
      clear b3
      go_wp2_with fail
      refine (H4.out _ (HT.out.below B3.out)).mono ?_
      rintro e v4 ⟨rfl, b4⟩
      have B4 := Lib.hid (below2 B3.out b4)
      clear b4
      go_wp2
      go_ret
      exact ⟨rfl, B4.out⟩
    · have H3 := Lib.hid (readText_as a1 _ _ d hu (by omega))
      have hd' : ((d : Int) != 0) = true := by simp; omega
      clear hu hd
      go_enter Tryd.func5, Tryd.ntmps5
      go_wp2_with fail
      refine (told_any _).mono ?_
      rintro e v0 ⟨rfl, rfl⟩
      go_wp2_with fail
      refine (H1.out _ HT.out).mono ?_
      rintro e v1 ⟨rfl, b1⟩
      have B1 := Lib.hid b1
      clear b1
      go_wp2_with fail
      refine (H2.out _ (HT.out.below B1.out)).mono ?_
      rintro e v2 ⟨rfl, b2⟩
      have B2 := Lib.hid (below2 B1.out b2)
      clear b2
      go_wp2_with fail
      refine (H3.out _ (HT.out.below B2.out)).mono ?_
      rintro e v3 ⟨rfl, b3⟩
      have B3 := Lib.hid (below2 B2.out b3)
      clear b3
      go_wp2
      go_ret
      exact ⟨rfl, B3.out⟩
  · have H1 := Lib.hid (text_as a0 _ c ht (by omega))
    have hc' : ((c : Int) == 0) = false := beq_eq_false_iff_ne.2 (by omega)
    clear ht hc
    rcases rdT_cases a1 with ⟨U, K, hu, hK, hU, htu⟩ | ⟨d, hd, hu⟩
    · have H3 := Lib.hid (readText_as a1 _ _ 0 hu (by omega))
      have H4 := Lib.hid (text_as U _ 0 htu (by omega))
      clear hu htu
      go_enter Tryd.func5, Tryd.ntmps5
      go_wp2_with fail
      refine (told_any _).mono ?_
      rintro e v0 ⟨rfl, rfl⟩
      go_wp2_with fail
      refine (H1.out _ HT.out).mono ?_
      rintro e v1 ⟨rfl, b1⟩
      have B1 := Lib.hid b1
      clear b1
      go_wp2_with fail
      refine (H3.out _ (HT.out.below B1.out)).mono ?_
      rintro e v2 ⟨rfl, b2⟩
      have B2 := Lib.hid (below2 B1.out b2)
      clear b2
      go_wp2_with fail
      refine (H4.out _ (HT.out.below B2.out)).mono ?_
      rintro e v3 ⟨rfl, b3⟩
      have B3 := Lib.hid (below2 B2.out b3)
      clear b3
      go_wp2
      go_ret
      exact ⟨rfl, B3.out⟩
    · have H3 := Lib.hid (readText_as a1 _ _ d hu (by omega))
      have hd' : ((d : Int) != 0) = true := by simp; omega
      clear hu hd
      go_enter Tryd.func5, Tryd.ntmps5
      go_wp2_with fail
      refine (told_any _).mono ?_
      rintro e v0 ⟨rfl, rfl⟩
      go_wp2_with fail
      refine (H1.out _ HT.out).mono ?_
      rintro e v1 ⟨rfl, b1⟩
      have B1 := Lib.hid b1
      clear b1
      go_wp2_with fail
      refine (H3.out _ (HT.out.below B1.out)).mono ?_
      rintro e v2 ⟨rfl, b2⟩
      have B2 := Lib.hid (below2 B1.out b2)
      clear b2
      go_wp2
      go_ret
      exact ⟨rfl, B2.out⟩

theorem own : ownKnob Tryd.prog.godebug = none := by kernel_rfl
theorem laid_met (os : Os) : laidMet Tryd.prog Rows.textBackRow.laid ((laidWorld os).forCall (fun _ _ => 0) ⟨#[], #[.string ⟨#[]⟩, .string ⟨#[]⟩], []⟩).memory :=
  laidMet_of_run' 8 (by kernel_rfl) (by kernel_rfl)
theorem reads (os : Os) {H : Type} (enc : TypeId × Value → H) : ∃ places, DataW.whole enc Tryd.prog ((laidWorld os).forCall (fun _ _ => 0) ⟨#[], #[.string ⟨#[]⟩, .string ⟨#[]⟩], []⟩).memory Tryd.f5.params.toList Rows.textBackSpec.vars false #[Value.string ⟨#[]⟩, Value.string ⟨#[]⟩].toList 8 = some ([.lit (.string []), .lit (.string [])], [], places) :=
  ⟨[], by kernel_rfl⟩
set_option maxRecDepth 100000 in
set_option maxHeartbeats 2000000 in
theorem lifted (os : Os) (started : os.Started) (H : Type) (enc : TypeId × Value → H) (F : Stop.Interp) :
    ReturnsInHanded {} Tryd.checked os 5 .any ((OpenSpec.ofChange Rows.textBackSpec).preRow enc Tryd.prog Tryd.f5 Rows.textBackRow.domain false Rows.textBackRow.laid) (((OpenSpec.ofChange Rows.textBackSpec).at F).post enc Tryd.prog Tryd.f5 false true false false) := by
  obtain ⟨places, hx⟩ := reads os enc
  refine returnsInHanded_of_row (C := Tryd.checked) (s := OpenSpec.ofChange Rows.textBackSpec) own started (by kernel_rfl) Tryd.func5
    (witness_row_atRef (enc := enc) (C := Tryd.checked) false (laidWorld os) #[.string ⟨#[]⟩, .string ⟨#[]⟩] rfl (by kernel_rfl) (by kernel_rfl) (by kernel_rfl)
      (OpenSpec.preRow_of_cond 8 hx (by kernel_rfl) (fun k hk => by cases hk) (by kernel_rfl) (laid_met os))) ?_
  intro W base args ds gs before hval0 hW _ _ hsz0 hL _ _
  have hval : ∀ (j : Nat) t v, Tryd.f5.params[j]? = some t → args[j]? = some v → Value.okWide Tryd.prog W .any base t v := hval0
  have hW' := hW
  obtain ⟨p, q, hA0, hV, rfl, hfz, hnd⟩ := hW
  have hA : DataW.TrodAll enc Tryd.prog W 0 (fun _ => true) true Tryd.f5.params.toList args.toList ds p := hA0
  have hsz : (DataW.weightsEach Tryd.prog (Tryd.f5.params.toList ++ Rows.textBackSpec.plain.varTypes Tryd.prog) (ds ++ gs)).all (· ≤ reachBytes) = true := hsz0
  rw [Tryd.params5] at hA hval hsz
  obtain ⟨v0, vs0, d0, ds0, p0, q0, hargs, rfl, rfl, h0, r0⟩ := trodAll_cons hA
  obtain ⟨v1, vs1, d1, ds1, p1, q1, rfl, rfl, rfl, h1, r1⟩ := trodAll_cons r0
  obtain ⟨rfl, rfl, rfl⟩ := trodAll_nil r1
  obtain rfl : args = #[v0, v1] := by cases args; simp_all
  obtain ⟨rfl, rfl⟩ := trodVars_none hV
  obtain ⟨a0, rfl, rfl, rfl, w0⟩ := open_string Tryd.underlying9 (hval 0 9 v0 rfl rfl) h0
  obtain ⟨a1, rfl, rfl, rfl, w1⟩ := open_string Tryd.underlying9 (hval 1 9 v1 rfl rfl) h1
  have s0 : a0.data.toList.length ≤ reachBytes := sized_string hsz (j := 0) (t := 9) rfl rfl
  have s1 : a1.data.toList.length ≤ reachBytes := sized_string hsz (j := 1) (t := 9) rfl rfl
  clear hA0 hval0
  refine (walk a0 a1 w0 w1 s0 s1 W (tabs_of hL)).mono fun e W' ⟨he, bel⟩ => ?_
  subst he
  exact ⟨_, rfl, _, _, _, [], _, [], hW', trodAll_mk1 (shut_bool Tryd.underlying4 _), (trodAll_cons_mk (shut_string Tryd.underlying9 w0) (trodAll_cons_mk (shut_string Tryd.underlying9 w1) trodAll_mk0)), rfl, bel.frame _, fun h => by cases h⟩
theorem said : Rows.TextBackSaid :=
  OpenClaim.holds_of_cond 5 Tryd.f5 rfl rfl rfl rfl rfl rfl rfl ⟨rfl, rfl, rfl, rfl, rfl⟩ rfl rfl rfl rfl rfl (by kernel_rfl) Tryd.func5 (by kernel_rfl)
    (of_decide_eq_true (by kernel_rfl)) (by unfold Func.isWrapper; first | (rw [if_pos (by decide +kernel)]; kernel_rfl) | (rw [if_neg (by decide +kernel)]; exact ⟨rfl, rfl⟩))
    (fun os started H enc _ F => by rw [OpenClaim.pre_eq_preRow]; exact lifted os started H enc F)
theorem plain (f : FuncId) (fn : Func) (hf : Tryd.pinned.checked.prog.funcNamed Rows.textBackRow.func = some f) (hfn : Tryd.pinned.checked.prog.funcs[f]? = some fn) :
    false = Tryd.pinned.checked.prog.looks [] ∧ ∀ (j : Nat) t, fn.params[j]? = some t → Tryd.pinned.checked.prog.wantsStandIn t = false := by
  obtain rfl : f = 5 := Option.some.inj ((show Tryd.prog.funcNamed Rows.textBackRow.func = some 5 by kernel_rfl).symm.trans hf) |>.symm
  obtain rfl : fn = Tryd.f5 := (Option.some.inj (Tryd.func5.symm.trans hfn)).symm
  refine ⟨by kernel_rfl, fun j t ht => ?_⟩
  rw [Tryd.params5] at ht
  obtain rfl : t = 9 := by simpa using Array.mem_of_getElem? ht
  exact (show Tryd.prog.wantsStandIn 9 = false by kernel_rfl)
theorem proved : Rows.TextBackCardSaid :=
  Claim7.holds_tied_plain_at .later [] _ _ _ _ said (fun _ h => by cases h) (by kernel_rfl) (fun _ h => by cases h) textBack_row_tie rfl ⟨rfl, rfl⟩ (by kernel_rfl) rfl plain (by kernel_rfl)
#print axioms proved
end Go.Proofs.YtmiidfeckchjoaaDoor.textBack
