/- For every two strings (of at most 1048576 letters together) the law JSONQuoted of the package brackenkeep returns true, as a tied card: a quoted text stands between quotation marks, bears neither control characters nor quotation marks but behind a backslash, and tells which text was quoted. Conditions: the bound on the bulk; the library's variables start as their text lays them (the card ties them; utf8.first is pinned). -/
import Derived.Test.YthbgaphidojneaaDoorJsLaid
import Derived.Test.YthbgaphidojneaaDoorJsRQuote
import Derived.Test.YthbgaphidojneaaDoorUpto
import Derived.JoinedCond
namespace Go.Proofs.YthbgaphidojneaaDoor.jSONQuoted
open Go.ChangeShapes Go.WideShapes Go.ChangeAt Go.RowKit
open Go.ChangeMaps (open_string shut_string)
set_option linter.unusedVariables false

/-- What stands between the marks. -/
inductive Good : List UInt8 → Prop
  | nil : Good []
  | esc (d : UInt8) (r : List UInt8) : Good r → Good (92 :: d :: r)
  | one (c : UInt8) (r : List UInt8) : 32 ≤ c.toNat → c ≠ 34 → c ≠ 92 → Good r → Good (c :: r)
theorem hex_good : ∀ k : Fin 16, 32 ≤ (hexB k.val).toNat ∧ hexB k.val ≠ 34 ∧ hexB k.val ≠ 92 := by decide
theorem good_esc (c : UInt8) (r : List UInt8) (h : Good r) : Good (escB c ++ r) := by
  unfold escB
  by_cases h1 : c = 34 ∨ c = 92
  · rw [if_pos h1]; exact .esc c r h
  · rw [if_neg h1]
    by_cases h2 : c.toNat < 32
    · rw [if_pos h2]
      have a := hex_good ⟨c.toNat / 16, by omega⟩
      have b := hex_good ⟨c.toNat % 16, by omega⟩
      exact .esc _ _ (.one _ _ (by decide) (by decide) (by decide) (.one _ _ (by decide) (by decide) (by decide) (.one _ _ a.1 a.2.1 a.2.2 (.one _ _ b.1 b.2.1 b.2.2 h))))
    · rw [if_neg h2]
      exact .one c r (by omega) (fun e => h1 (.inl e)) (fun e => h1 (.inr e)) h
theorem good_all : ∀ l : List UInt8, Good (escL l)
  | [] => .nil
  | c :: l => by
    have e : escL (c :: l) = escB c ++ escL l := by simp [escL]
    rw [e]; exact good_esc c _ (good_all l)
theorem at_of (e : List UInt8) (Q : ByteArray) (hQ : baL (34 :: (e ++ [34])) = Q) (p : Nat) (h : p < e.length) (h' : p + 1 < Q.size) : Q[p + 1] = e[p] := by
  subst hQ
  have e1 : (baL (34 :: (e ++ [34])))[p + 1] = (34 :: (e ++ [34]))[p + 1]'(by rw [baL_size] at h'; exact h') := rfl
  rw [e1, List.getElem_cons_succ, List.getElem_append_left h]
theorem at_last (e : List UInt8) (Q : ByteArray) (hQ : baL (34 :: (e ++ [34])) = Q) (h : Q.size - 1 < Q.size) : Q[Q.size - 1] = 34 := by
  subst hQ
  have hz : (baL (34 :: (e ++ [34]))).size - 1 = e.length + 1 := by rw [baL_size]; simp
  have e1 : (baL (34 :: (e ++ [34])))[(baL (34 :: (e ++ [34]))).size - 1] = (34 :: (e ++ [34]))[e.length + 1]'(by simp) := by
    have : ∀ (k : Nat) (hk : k = e.length + 1) (h1 : k < (baL (34 :: (e ++ [34]))).size), (baL (34 :: (e ++ [34])))[k] = (34 :: (e ++ [34]))[e.length + 1]'(by simp) := by
      rintro k rfl h1
      rfl
    exact this _ hz h
  rw [e1]
  simp
theorem drop_one (e : List UInt8) (p : Nat) (c : UInt8) (r : List UInt8) (h : e.drop p = c :: r) : ∃ hp : p < e.length, e[p] = c ∧ e.drop (p + 1) = r := by
  have hp : p < e.length := by
    rcases Nat.lt_or_ge p e.length with h1 | h1
    · exact h1
    · rw [List.drop_eq_nil_of_le h1] at h; cases h
  rw [List.drop_eq_getElem_cons hp] at h
  simp only [List.cons.injEq] at h
  exact ⟨hp, h.1, h.2⟩
set_option maxRecDepth 100000 in
set_option maxHeartbeats 4000000 in
theorem walk (a0 a1 : ByteArray) (w0 : a0.size ≤ maxLen) (w1 : a1.size ≤ maxLen) (s0 : a0.size ≤ 1048576) (s1 : a1.size ≤ 1048576) (w : World) (hT : JTabs w) :
    Calls Tryd.prog 4 #[.string a0, .string a1] w fun e w' => e = .returned (.bool true) ∧ Below w.heap.size w w' := by
  have HPr := Lib.hid (printed_is w hT)
  have H1 := Lib.hid (fun w' => quote_is a0 (by omega) w')
  have H2 := Lib.hid (fun w' => quote_is a1 (by omega) w')
  have g0 : a0.data.toList.length = a0.size := by rw [Array.length_toList]; rfl
  have l0 := esc_len a0.data.toList
  have l0' : a0.data.toList.length ≤ (escL a0.data.toList).length := by
    have : ∀ l : List UInt8, l.length ≤ (escL l).length := by
      intro l
      induction l with
      | nil => simp
      | cons c l ih =>
        obtain ⟨x, r, hx, _⟩ := escB_ne c
        have e : escL (c :: l) = escB c ++ escL l := by simp [escL]
        rw [e, hx]
        simp only [List.length_cons, List.length_append]
        omega
    exact this _
  have eq1 : (baL (quoteL a0.data.toList) = baL (quoteL a1.data.toList)) ↔ a0 = a1 := by
    constructor
    · intro e
      have := pf_inj quote_pf trivial trivial (baL_inj e)
      exact ByteArray.ext (Array.ext' this)
    · rintro rfl; rfl
  obtain ⟨E, hE⟩ : ∃ E, escL a0.data.toList = E := ⟨_, rfl⟩
  have hG : Good E := by rw [← hE]; exact good_all _
  have eX : baL (34 :: (E ++ [34])) = baL (quoteL a0.data.toList) := by rw [← hE]; rfl
  have zX : (baL (quoteL a0.data.toList)).size = E.length + 2 := by rw [baL_size, ← hE]; simp [quoteL]
  rw [hE] at l0 l0'
  obtain ⟨X, hX⟩ : ∃ X, baL (quoteL a0.data.toList) = X := ⟨_, rfl⟩
  obtain ⟨Y, hY⟩ : ∃ Y, baL (quoteL a1.data.toList) = Y := ⟨_, rfl⟩
  rw [hX] at H1 eX zX eq1
  rw [hY] at H2 eq1
  have hx2 : 2 ≤ X.size := by omega
  have hx0 : 0 < X.size := by omega
  have hx1 : X.size - 1 < X.size := by omega
  have x0 : X[0] = 34 := by subst eX; rfl
  have x9 : X[X.size - 1] = 34 := at_last E X eX hx1
  have HAT : Hid (∀ p (h : p < E.length) (h' : p + 1 < X.size), X[p + 1] = E[p]) := at_of E X eX
  have HZ := Lib.hid zX
  have hxb : X.size ≤ 10000000 := by omega
  have c0 : X[0].toNat = 34 := by rw [x0]; rfl
  have c9 : X[X.size - 1].toNat = 34 := by rw [x9]; rfl
  have hlt : ¬ ((X.size : Int) < (a0.size : Int) + 2) := by omega
  have HEQ := Lib.hid eq1
  clear hE eX zX hX hY x0 x9 hT g0 l0 l0' eq1
  go_enter Tryd.func4, Tryd.ntmps4
  go_wp2_with fail
  refine HPr.out.mono ?_
  rintro e u0 ⟨rfl, b0⟩
  go_wp2_with fail
  refine (H1.out _).mono ?_
  rintro e u1 ⟨rfl, b1⟩
  have B1 := Lib.hid (below_trans b0 b1 b0.size)
  clear b0 b1 H1 HPr
  go_wp2
  clear c0 c9 hlt
  go_loop [6] (fun iv => ∃ p : Nat, iv = .int .i64 ((p : Int) + 1) ∧ p ≤ E.length ∧ Hid (Good (E.drop p))) (fun iv => X.size - (intOf iv).toNat)
  case atStart => exact ⟨0, rfl, Nat.zero_le _, hG⟩
  case round =>
    obtain ⟨p, rfl, hp, HG⟩ := hrel
    clear hG
    have hz := HZ.out
    rcases hgd : E.drop p with _ | ⟨c, r⟩
    · have hpe : p = E.length := by
        have := congrArg List.length hgd
        rw [List.length_drop, List.length_nil] at this
        omega
      have hend : ¬ ((p : Int) + 1 < (X.size : Int) - 1) := by omega
      clear hz hgd HG
      by_cases hab : a0 = a1
      · have hxy := HEQ.out.2 hab
        subst hab
        have t1 : (X.toList == X.toList) = true := by simp
        have t2 : (a0.toList == a0.toList) = true := by simp
        subst hxy
        go_wp2_with fail
        refine (H2.out _).mono ?_
        rintro e u2 ⟨rfl, b2⟩
        go_wp2
        go_ret
        exact ⟨rfl, below_trans B1.out b2 B1.out.size⟩
      · have t1 : (X.toList == Y.toList) = false := ne_list (fun e => hab (HEQ.out.1 e))
        have t2 : (a0.toList == a1.toList) = false := ne_list hab
        go_wp2_with fail
        refine (H2.out _).mono ?_
        rintro e u2 ⟨rfl, b2⟩
        go_wp2
        go_ret
        exact ⟨rfl, below_trans B1.out b2 B1.out.size⟩
    · obtain ⟨hpl, hc, hr⟩ := drop_one E p c r hgd
      have hpx : p + 1 < X.size := by omega
      have hx := HAT.out p hpl hpx
      rw [hc] at hx
      have hlt : (p : Int) + 1 < (X.size : Int) - 1 := by omega
      have hG' := HG.out
      rw [hgd] at hG'
      cases hG' with
      | esc d r2 h2 =>
        obtain ⟨hpl2, _, hr2⟩ := drop_one E (p + 1) d r2 hr
        have hn : (X[p + 1]'hpx).toNat = 92 := by rw [hx]; rfl
        have hne : ((p : Int) + 1 + 1 == (X.size : Int) - 1) = false := by rw [beq_eq_false_iff_ne]; omega
        have HG2 : Hid (Good (E.drop (p + 2))) := by show Good _; rw [hr2]; exact h2
        have hp2 : p + 2 ≤ E.length := by omega
        clear hz hgd HG hc hr hr2 h2 hx
        go_wp2
        go_round
        case rel => exact ⟨p + 2, by go_num, hp2, HG2⟩
        case measure => simp [intOf]; omega
      | one _ _ h32 h34 h92 hr3 =>
        have n32 : ¬ ((X[p + 1]'hpx).toNat : Int) < 32 := by rw [hx]; omega
        have n34 : (((X[p + 1]'hpx).toNat : Int) == 34) = false := by
          rw [hx, beq_eq_false_iff_ne]
          intro e; exact h34 (u8_of (by simpa using (by omega : c.toNat = 34)))
        have n92 : (((X[p + 1]'hpx).toNat : Int) == 92) = false := by
          rw [hx, beq_eq_false_iff_ne]
          intro e; exact h92 (u8_of (by simpa using (by omega : c.toNat = 92)))
        have HG2 : Hid (Good (E.drop (p + 1))) := by show Good _; rw [hr]; exact hr3
        have hp2 : p + 1 ≤ E.length := by omega
        clear hz hgd HG hc hr hx h32 h34 h92 hr3
        go_wp2
        go_round
        case rel => exact ⟨p + 1, by go_num, hp2, HG2⟩
        case measure => simp [intOf]; omega
theorem own : ownKnob Tryd.prog.godebug = none := by kernel_rfl
theorem laid_met (os : Os) : laidMet Tryd.prog Rows.jSONQuotedUptoRow.laid ((jlaidWorld os).forCall (fun _ _ => 0) ⟨#[], #[.string ⟨#[]⟩, .string ⟨#[]⟩], []⟩).memory :=
  laidMet_of_run' 8 (by kernel_rfl) (by kernel_rfl)
theorem reads (os : Os) {H : Type} (enc : TypeId × Value → H) : ∃ places, DataW.whole enc Tryd.prog ((jlaidWorld os).forCall (fun _ _ => 0) ⟨#[], #[.string ⟨#[]⟩, .string ⟨#[]⟩], []⟩).memory Tryd.f4.params.toList Rows.jSONQuotedSpec.vars false #[Value.string ⟨#[]⟩, Value.string ⟨#[]⟩].toList 8 = some ([.lit (.string []), .lit (.string [])], [], places) :=
  ⟨[], by kernel_rfl⟩
set_option maxRecDepth 100000 in
set_option maxHeartbeats 2000000 in
theorem lifted (os : Os) (started : os.Started) (H : Type) (enc : TypeId × Value → H) (F : Stop.Interp) :
    ReturnsInHanded {} Tryd.checked os 4 .any ((Rows.OpenSpec.upto Rows.jSONQuotedSpec).preRow enc Tryd.prog Tryd.f4 Rows.jSONQuotedUptoRow.domain false Rows.jSONQuotedUptoRow.laid) (((Rows.OpenSpec.upto Rows.jSONQuotedSpec).at F).post enc Tryd.prog Tryd.f4 false true false false) := by
  obtain ⟨places, hx⟩ := reads os enc
  refine returnsInHanded_of_row (C := Tryd.checked) (s := (Rows.OpenSpec.upto Rows.jSONQuotedSpec)) own started (by kernel_rfl) Tryd.func4
    (witness_row_atRef (enc := enc) (C := Tryd.checked) false (jlaidWorld os) #[.string ⟨#[]⟩, .string ⟨#[]⟩] rfl (by kernel_rfl) (by kernel_rfl) (by kernel_rfl)
      (OpenSpec.preRow_of_cond 8 hx (by kernel_rfl) (fun k hk => by cases hk; kernel_rfl) (by kernel_rfl) (laid_met os))) ?_
  intro W base args ds gs before hval0 hW _ hk1 hsz0 hL hSh _
  have hval : ∀ (j : Nat) t v, Tryd.f4.params[j]? = some t → args[j]? = some v → Value.okWide Tryd.prog W .any base t v := hval0
  have hW' := hW
  obtain ⟨p, q, hA0, hV, rfl, hfz, hnd⟩ := hW
  have hA : DataW.TrodAll enc Tryd.prog W 0 (fun _ => true) true Tryd.f4.params.toList args.toList ds p := hA0
  rw [Tryd.params4] at hA hval
  obtain ⟨v0, vs0, d0, ds0, p0, q0, hargs, rfl, rfl, h0, r0⟩ := trodAll_cons hA
  obtain ⟨v1, vs1, d1, ds1, p1, q1, rfl, rfl, rfl, h1, r1⟩ := trodAll_cons r0
  obtain ⟨rfl, rfl, rfl⟩ := trodAll_nil r1
  obtain rfl : args = #[v0, v1] := by cases args; simp_all
  obtain ⟨rfl, rfl⟩ := trodVars_none hV
  have hk := hk1 _ rfl
  obtain ⟨a0, rfl, rfl, rfl, w0⟩ := open_string Tryd.underlying9 (hval 0 9 v0 rfl rfl) h0
  obtain ⟨a1, rfl, rfl, rfl, w1⟩ := open_string Tryd.underlying9 (hval 1 9 v1 rfl rfl) h1
  have s0 : a0.size ≤ 1048576 := upto_string hk (j := 0) rfl
  have s1 : a1.size ≤ 1048576 := upto_string hk (j := 1) rfl
  clear hA0 hval0
  refine (walk a0 a1 w0 w1 s0 s1 W (jtabs_of hL hSh)).mono fun e W' ⟨he, bel⟩ => ?_
  subst he
  exact ⟨_, rfl, _, _, _, [], _, [], hW', trodAll_mk1 (shut_bool Tryd.underlying4 _), (trodAll_cons_mk (shut_string Tryd.underlying9 w0) (trodAll_cons_mk (shut_string Tryd.underlying9 w1) trodAll_mk0)), rfl, bel.frame _, fun h => by cases h⟩
theorem said : Rows.JSONQuotedUptoSaid :=
  OpenClaim.holds_of_cond 4 Tryd.f4 rfl rfl rfl rfl rfl rfl rfl ⟨rfl, rfl, rfl, rfl, rfl⟩ rfl rfl rfl rfl rfl (by kernel_rfl) Tryd.func4 (by kernel_rfl)
    (of_decide_eq_true (by kernel_rfl)) (by unfold Func.isWrapper; first | (rw [if_pos (by decide +kernel)]; kernel_rfl) | (rw [if_neg (by decide +kernel)]; exact ⟨rfl, rfl⟩))
    (fun os started H enc _ F => by rw [OpenClaim.pre_eq_preRow]; exact lifted os started H enc F)
theorem plain (f : FuncId) (fn : Func) (hf : Tryd.pinned.checked.prog.funcNamed Rows.jSONQuotedUptoRow.func = some f) (hfn : Tryd.pinned.checked.prog.funcs[f]? = some fn) :
    false = Tryd.pinned.checked.prog.looks [] ∧ ∀ (j : Nat) t, fn.params[j]? = some t → Tryd.pinned.checked.prog.wantsStandIn t = false := by
  obtain rfl : f = 4 := Option.some.inj ((show Tryd.prog.funcNamed Rows.jSONQuotedUptoRow.func = some 4 by kernel_rfl).symm.trans hf) |>.symm
  obtain rfl : fn = Tryd.f4 := (Option.some.inj (Tryd.func4.symm.trans hfn)).symm
  refine ⟨by kernel_rfl, fun j t ht => ?_⟩
  rw [Tryd.params4] at ht
  obtain rfl : t = 9 := by simpa using Array.mem_of_getElem? ht
  exact (show Tryd.prog.wantsStandIn 9 = false by kernel_rfl)
theorem proved : Rows.JSONQuotedUptoCardSaid :=
  Claim7.holds_tied_plain_at .later [] _ _ _ _ said (fun _ h => by cases h) (by kernel_rfl) (fun _ h => by cases h) jSONQuotedUpto_row_tie rfl ⟨rfl, rfl⟩ (by kernel_rfl) rfl plain (by kernel_rfl)
#print axioms proved
end Go.Proofs.YthbgaphidojneaaDoor.jSONQuoted
