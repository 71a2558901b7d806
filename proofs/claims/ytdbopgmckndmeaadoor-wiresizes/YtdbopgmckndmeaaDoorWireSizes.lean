/- For every state s the law WireSizes of the package brackenkeep returns true, as a tied card: the bytes of a state in a later version are no fewer, if it fits both, and three at least. Condition: the library's two tables unicode/utf8.first and acceptRanges start as their text lays them (the card ties them; first is pinned). -/
import Derived.Test.YtdbopgmckndmeaaDoorPkWi5
namespace Go.Proofs.YtdbopgmckndmeaaDoor.wireSizes
open Go.ChangeShapes Go.WideShapes Go.ChangeAt Go.RowKit
set_option linter.unusedVariables false

set_option maxRecDepth 100000 in
set_option maxHeartbeats 4000000 in
theorem walk (M : StM) (s : StD) (hw : wState s) (hz : SzState s) (w : World) (hm : StateAt w M s) (hT : Tabs w) :
    Calls Tryd.prog 10 #[stV M s] w fun e w' => e = .returned (.bool true) ∧ Below w.heap.size w w' := by
  obtain ⟨aj, cj, an, cn, al, cl⟩ := M
  obtain ⟨hmj, hmn, hml⟩ := hm
  show Calls _ _ #[.agg #[.int .i64 s.rev, .slice aj s.jobs.length cj, .slice an s.nodes.length cn, .slice al s.leases.length cl]] _ _
  simp only at hmj hmn hml
  obtain ⟨W, hW⟩ : ∃ W, w.alloc (.cells #[.int .i64 s.rev, .slice aj s.jobs.length cj, .slice an s.nodes.length cn, .slice al s.leases.length cl] 26) = W := ⟨_, rfl⟩
  have q1 := box_new4 w (.int .i64 s.rev) (.slice aj s.jobs.length cj) (.slice an s.nodes.length cn) (.slice al s.leases.length cl) 26
  have bW : Below w.heap.size w W := by rw [← hW]; exact below_one _ _
  rw [hW] at q1
  have HWi := Lib.hid (wired_is W (hT.below bW))
  have HE := Lib.hid (fun v W' (hb : Below w.heap.size w W') => wencode_any s aj an al cj cn cl v hw W' (hT.below hb) (jobsAt_next hmj hb) (nodesAt_next hmn hb) (leasesAt_next hml hb))
  have HW := Lib.hid hW
  clear hmj hmn hml hT hw hz hW
  go_enter Tryd.func10, Tryd.ntmps10
  go_wp2_with fail
  rw [HW.out]
  refine HWi.out.mono ?_
  rintro e w1 ⟨rfl, b1⟩
  have B1 := below_trans bW b1 bW.size
  have p1 := box_next q1 b1
  clear HW q1 b1 bW HWi
  go_wp2
  go_loopw [3, 4] (fun av vv wr => ∃ (k n : Nat), av = .int .i64 (n : Int) ∧ vv = .int .i64 (k : Int) ∧ 1 ≤ k ∧ k ≤ 4 ∧ Box w.heap.size [.int .i64 s.rev, .slice aj s.jobs.length cj, .slice an s.nodes.length cn, .slice al s.leases.length cl] wr ∧ Below w.heap.size w wr ∧ Hid (n = 0 ∨ n ≤ (stB (k : Int) s).length)) (fun _ vv _ => 4 - (intOf vv).toNat)
  case atStart => exact ⟨1, 0, rfl, rfl, by omega, by omega, p1, B1, .inl rfl⟩
  case round =>
    clear p1 B1
    obtain ⟨k, n, rfl, rfl, h1, h4, q, hb, HN⟩ := hrel
    by_cases h : (k : Int) ≤ 3
    · have k0 := q.1 0 _ rfl
      have k1 := q.1 1 _ rfl
      have k2 := q.1 2 _ rfl
      have k3 := q.1 3 _ rfl
      have HE' := Lib.hid (HE.out (k : Int) wr hb)
      rcases wenc_cases s (k : Int) with ⟨c, hc, e1⟩ | ⟨e1, hc1, hf1, hok, _⟩
      · rw [e1] at HE'
        have hc' : ((c : Int) != 0) = true := by simp; omega
        have HN2 : Hid (n = 0 ∨ n ≤ (stB ((k + 1 : Nat) : Int) s).length) := by
          rcases HN.out with h0 | h0
          · exact .inl h0
          · exact .inr (Nat.le_trans h0 (st_mono _ _ (by omega) s).1)
        clear e1 hc
        go_wp2_with fail
        refine HE'.out.mono ?_
        rintro e w2 ⟨rfl, b2⟩
        have q2 := box_next q b2
        have hb2 := below_trans hb b2 hb.size
        clear q k0 k1 k2 k3
        go_wp2
        go_roundw
        case rel => exact ⟨k + 1, n, rfl, by simp, by omega, by omega, q2, hb2, HN2⟩
        case measure => simp [intOf]; omega
      · rw [e1] at HE'
        have hl := st_mono (k : Int) ((k + 1 : Nat) : Int) (by omega) s
        have hs3 := hl.2
        have hle : n ≤ (stB (k : Int) s).length := by
          rcases HN.out with h0 | h0
          · omega
          · exact h0
        have hb5 := st_len hok
        have HN2 : Hid ((stB (k : Int) s).length = 0 ∨ (stB (k : Int) s).length ≤ (stB ((k + 1 : Nat) : Int) s).length) := .inr hl.1
        have hsz := bytes_size (stB (k : Int) s)
        generalize (⟨(stB (k : Int) s).toArray⟩ : ByteArray) = X at HE' hsz
        generalize (stB (k : Int) s).length = L at hsz hle hs3 HN2 hb5
        have i1 : (n : Int) ≤ (X.size : Int) := by omega
        have i2 : (3 : Int) ≤ (X.size : Int) := by omega
        clear e1 hl hc1 hf1 hok HN
        go_wp2_with fail
        refine HE'.out.mono ?_
        rintro e w2 ⟨rfl, b2⟩
        have q2 := box_next q b2
        have hb2 := below_trans hb b2 hb.size
        clear q k0 k1 k2 k3
        go_wp2
        go_roundw
        case rel => exact ⟨k + 1, L, by simp, by simp, by omega, by omega, q2, hb2, HN2⟩
        case measure => simp [intOf]; omega
    · go_wp2
      go_ret
      exact ⟨rfl, hb⟩

theorem own : ownKnob Tryd.prog.godebug = none := by kernel_rfl
theorem laidOut : laidOutB Tryd.prog = true := by kernel_rfl
theorem laid_met (os : Os) : laidMet Tryd.prog Rows.wireSizesRow.laid ((laidWorld os).forCall (fun _ _ => 0) ⟨#[], #[.agg #[.int .i64 0, .slice none 0 0, .slice none 0 0, .slice none 0 0]], []⟩).memory :=
  laidMet_of_run' 8 (by kernel_rfl) (by kernel_rfl)
theorem reads (os : Os) {H : Type} (enc : TypeId × Value → H) : ∃ places, DataW.whole enc Tryd.prog ((laidWorld os).forCall (fun _ _ => 0) ⟨#[], #[.agg #[.int .i64 0, .slice none 0 0, .slice none 0 0, .slice none 0 0]], []⟩).memory Tryd.f10.params.toList Rows.wireSizesSpec.vars false #[Value.agg #[.int .i64 0, .slice none 0 0, .slice none 0 0, .slice none 0 0]].toList 8 = some ([.agg [.lit (.int .i64 0), .nil, .nil, .nil]], [], places) :=
  ⟨[], by kernel_rfl⟩
set_option maxRecDepth 100000 in
set_option maxHeartbeats 2000000 in
theorem lifted (os : Os) (started : os.Started) (H : Type) (enc : TypeId × Value → H) (F : Stop.Interp) :
    ReturnsInHanded {} Tryd.checked os 10 .any ((OpenSpec.ofChange Rows.wireSizesSpec).preRow enc Tryd.prog Tryd.f10 Rows.wireSizesRow.domain false Rows.wireSizesRow.laid) (((OpenSpec.ofChange Rows.wireSizesSpec).at F).post enc Tryd.prog Tryd.f10 false true false false) := by
  obtain ⟨places, hx⟩ := reads os enc
  refine returnsInHanded_of_row (C := Tryd.checked) (s := (OpenSpec.ofChange Rows.wireSizesSpec)) own started (by kernel_rfl) Tryd.func10
    (witness_row_atRef (enc := enc) (C := Tryd.checked) false (laidWorld os) #[.agg #[.int .i64 0, .slice none 0 0, .slice none 0 0, .slice none 0 0]] rfl (by kernel_rfl) (by kernel_rfl) (by kernel_rfl)
      (OpenSpec.preRow_of_cond 8 hx (by kernel_rfl) (fun k hk => by cases hk) (by kernel_rfl) (laid_met os))) ?_
  intro W base args ds gs before hval0 hW _ _ hsz0 hL _ _
  have hval : ∀ (j : Nat) t v, Tryd.f10.params[j]? = some t → args[j]? = some v → Value.okWide Tryd.prog W .any base t v := hval0
  have hW' := hW
  obtain ⟨p, q, hA0, hV, rfl, hfz, hnd⟩ := hW
  have hA : DataW.TrodAll enc Tryd.prog W 0 (fun _ => true) true Tryd.f10.params.toList args.toList ds p := hA0
  have hsz : (DataW.weightsEach Tryd.prog (Tryd.f10.params.toList ++ Rows.wireSizesSpec.plain.varTypes Tryd.prog) (ds ++ gs)).all (· ≤ reachBytes) = true := hsz0
  rw [Tryd.params10] at hA hval hsz
  obtain ⟨v0, vs0, d0, ds0, p0, q0, hargs, rfl, rfl, h0, r0⟩ := trodAll_cons hA
  obtain ⟨rfl, rfl, rfl⟩ := trodAll_nil r0
  obtain rfl : args = #[v0] := by cases args; simp_all
  obtain ⟨rfl, rfl⟩ := trodVars_none hV
  obtain ⟨M0, st0, rfl, m0, x0, w0⟩ := open_state (hval 0 26 v0 rfl rfl) h0
  have s0 := sized_state hsz rfl (j := 0) rfl x0
  clear hA0 hval0
  refine (walk M0 st0 w0 s0 W m0 (tabs_of hL)).mono fun e W' ⟨he, bel⟩ => ?_
  subst he
  exact ⟨_, rfl, _, _, _, [], _, [], hW', trodAll_mk1 (shut_bool Tryd.underlying4 _), (trodAll_cons_mk (Below.trod laidOut (by kernel_rfl) (of_decide_eq_true (by kernel_rfl)) h0 bel (fun x hx => by simpa using hW'.lt x (by simp [hx]))) trodAll_mk0), rfl, bel.frame _, fun h => by cases h⟩
theorem said : Rows.WireSizesSaid :=
  OpenClaim.holds_of_cond 10 Tryd.f10 rfl rfl rfl rfl rfl rfl rfl ⟨rfl, rfl, rfl, rfl, rfl⟩ rfl rfl rfl rfl rfl (by kernel_rfl) Tryd.func10 (by kernel_rfl)
    (of_decide_eq_true (by kernel_rfl)) (by unfold Func.isWrapper; first | (rw [if_pos (by decide +kernel)]; kernel_rfl) | (rw [if_neg (by decide +kernel)]; exact ⟨rfl, rfl⟩))
    (fun os started H enc _ F => by rw [OpenClaim.pre_eq_preRow]; exact lifted os started H enc F)
theorem plain (f : FuncId) (fn : Func) (hf : Tryd.pinned.checked.prog.funcNamed Rows.wireSizesRow.func = some f) (hfn : Tryd.pinned.checked.prog.funcs[f]? = some fn) :
    true = Tryd.pinned.checked.prog.looks [] ∧ ∀ (j : Nat) t, fn.params[j]? = some t → Tryd.pinned.checked.prog.wantsStandIn t = false := by
  obtain rfl : f = 10 := Option.some.inj ((show Tryd.prog.funcNamed Rows.wireSizesRow.func = some 10 by kernel_rfl).symm.trans hf) |>.symm
  obtain rfl : fn = Tryd.f10 := (Option.some.inj (Tryd.func10.symm.trans hfn)).symm
  refine ⟨by kernel_rfl, fun j t ht => ?_⟩
  rw [Tryd.params10] at ht
  obtain rfl : t = 26 := by simpa using Array.mem_of_getElem? ht
  exact (show Tryd.prog.wantsStandIn 26 = false by kernel_rfl)
theorem proved : Rows.WireSizesCardSaid :=
  Claim7.holds_tied_plain_at .later [] _ _ _ _ said (fun _ h => by cases h) (by kernel_rfl) (fun _ h => by cases h) wireSizes_row_tie rfl ⟨rfl, rfl⟩ (by kernel_rfl) rfl plain (by kernel_rfl)
#print axioms proved
end Go.Proofs.YtdbopgmckndmeaaDoor.wireSizes
