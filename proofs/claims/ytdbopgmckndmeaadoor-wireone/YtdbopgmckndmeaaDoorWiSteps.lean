/- The coder of package wire: its errors, its way through the bytes, numbers. -/
import Derived.Test.YtdbopgmckndmeaaDoorWiMem
import Derived.Test.YtdbopgmckndmeaaDoorZig
import Derived.Lib.AppendStr
import Derived.Deep.RegionLaw
namespace Go.Proofs.YtdbopgmckndmeaaDoor
open Go.RowKit Go.Lib

theorem ownRow_slice {w : World} {base e sz n : Nat} {v : Value} {xs : List Value} (h : w.ownsRow base e sz v n xs) : ∃ ad cap, v = .slice ad n cap := by
  rcases h.2 with ⟨rfl, rfl⟩ | ⟨g, cap, cur, rfl, _⟩
  · exact ⟨_, _, rfl⟩
  · exact ⟨_, _, rfl⟩
theorem wp_appS {w : World} {o : Oper} {a : Act} {K : Act → World → Prop} {Q : Exit → Act → World → Prop} (sl x : Operand) (t u : TypeId)
    (ho : o.op = .call { callee := .builtin .append, args := #[sl, x], argTypes := #[t, u] })
    (base : Nat) (e : TypeId) (i : TypeInfo) (ht : Tryd.prog.underlying t = some (.slice e)) (hu : Tryd.prog.underlying u = some .string) (hi : Tryd.prog.info? e = some i) (hz : i.zero = some (.int .u8 0))
    (hsize : i.size = 1) (hby : i.bytes = 1)
    (v : Value) (n : Nat) (xs : List Value) (hs : a.eval sl = v) (hown : w.ownsRow base e 1 v n xs) (s : ByteArray) (hx : a.eval x = .string s)
    (hbytes : n + s.size ≤ 140737488355328) (hbase : base ≤ w.heap.size)
    (h : ∀ v' w', w'.ownsRow base e 1 v' (n + s.size) (xs ++ strCells s) → w.grownBy w' v.ownBlock → K (a.put o.dst v') w') : Oper.wp Tryd.prog o a w K Q := by
  obtain ⟨v', w', hr, h2, h3, _⟩ := run_append_own_string (P := Tryd.prog) w base t u o.type e i ht hu hi hz hsize hby v n xs hown s (by unfold maxLen; omega) hbytes hbase
  unfold Oper.wp
  simp only [execOp, ho, resolve, invoke, builtin, Sem.run_bind, Sem.run_pure, Result.andThen_ok, List.map_toArray, List.map_cons, List.map_nil, hs, hx, hr]
  exact h v' w' h2 h3
theorem step_appS {w : World} {ops : Array Oper} {o : Oper} {a : Act} {K : Act → World → Prop} {Q : Exit → Act → World → Prop} {E : Prop} (hgd : o.guard = none) (sl x : Operand) (t u : TypeId)
    (ho : o.op = .call { callee := .builtin .append, args := #[sl, x], argTypes := #[t, u] })
    (base : Nat) (e : TypeId) (i : TypeInfo) (ht : Tryd.prog.underlying t = some (.slice e)) (hu : Tryd.prog.underlying u = some .string) (hi : Tryd.prog.info? e = some i) (hz : i.zero = some (.int .u8 0))
    (hsize : i.size = 1) (hby : i.bytes = 1)
    (v : Value) (n : Nat) (xs : List Value) (hs : a.eval sl = v) (hown : w.ownsRow base e 1 v n xs) (s : ByteArray) (hx : a.eval x = .string s)
    (hbytes : n + s.size ≤ 140737488355328) (hbase : base ≤ w.heap.size)
    (h : ∀ v' w', w'.ownsRow base e 1 v' (n + s.size) (xs ++ strCells s) → w.grownBy w' v.ownBlock → K (a.put o.dst v') w') :
    if Region.wanted o (yielded ops a.tmps) = true then Oper.wp Tryd.prog o a w K Q else E := by
  have hw : Region.wanted o (yielded ops a.tmps) = true := by simp [Region.wanted, hgd]
  rw [if_pos hw]
  exact wp_appS sl x t u ho base e i ht hu hi hz hsize hby v n xs hs hown s hx hbytes hbase h
theorem strCells_bytes (s : ByteArray) : strCells s = byteCells s.data.toList := rfl
theorem code_size {b : Nat} {v : Int} {m : M} {w : World} (h : CodeAt b v m w) : b + 1 ≤ w.heap.size := code_lt h
/-- What lies behind an append to what was written, and behind its store. -/
theorem code_app {b n : Nat} {w w' : World} {x : Value} {vs : Array Value} {t : TypeId} {xs : List Value} (h1 : ObjAt b vs t w) (h2 : w.ownsRow (b + 1) 5 1 x n xs) (hg : w.grownBy w' x.ownBlock) : ObjAt b vs t w' := by
  have hb := objAt_lt h1
  unfold ObjAt at h1 ⊢
  rw [hg.block b hb (fun e => by
    rcases h2.2 with ⟨rfl, _⟩ | ⟨g, cap, cur, rfl, hbg, _⟩
    · simp [Value.ownBlock] at e
    · simp only [Value.ownBlock, Option.some.injEq] at e; omega)]
  exact h1
theorem code_put {b : Nat} {v : Int} {m : M} {w : World} {x y : Value} (gs : List UInt8) {n : Nat} {xs : List Value} (h1 : ObjAt b #[.int .i64 v, .bool m.reading, x, .string m.rest, .int .i64 (m.e : Int)] 49 w)
    (h2 : w.ownsRow (b + 1) 5 1 y n xs) (hn : n = gs.length) (hx : xs = byteCells gs) : CodeAt b v { m with gs := gs } (w.setCell ⟨b, 2, none⟩ y) := by
  subst hn hx
  exact ⟨y, objAt_set h1 2 y, own_set_b h2 2 y⟩

theorem fail_is {b : Nat} {v : Int} {m : M} (e : Nat) (w : World) (h : CodeAt b v m w) :
    Calls Tryd.prog 61 #[.pointer (some ⟨b, 0, none⟩), .int .i64 (e : Int)] w fun r w' => r = .returned (.tuple #[]) ∧ CodeAt b v (m.fail e) w' ∧ Keep b w w' := by
  obtain ⟨c0, c1, c3, c4⟩ := code_cells h
  have f4 := code_free h 4
  have hl := code_lt h
  by_cases he : m.e = 0
  · have hm : m.fail e = { m with e := e } := by unfold M.fail; rw [if_pos he]
    have hc := Lib.hid (code_e h e)
    rw [he] at c4
    rw [hm]
    clear h
    go_enter Tryd.func61, Tryd.ntmps61
    go_wp2
    first | go_end0 | refine bodyPost_ret (results_none rfl _ _ _) rfl ?_
    exact ⟨rfl, hc.out, keep_set b w 4 _⟩
  · have hm : m.fail e = m := by unfold M.fail; rw [if_neg he]
    have he' : ((m.e : Int) == 0) = false := by simp; omega
    rw [hm]
    have hc := Lib.hid h
    clear h
    go_enter Tryd.func61, Tryd.ntmps61
    go_wp2
    first | go_end0 | refine bodyPost_ret (results_none rfl _ _ _) rfl ?_
    exact ⟨rfl, hc.out, keep_refl b w⟩
theorem ext_all (s : ByteArray) : s.extract s.size s.size = ⟨#[]⟩ := by
  rw [drop_bytes, List.drop_of_length_le (by rw [size_l]; exact Nat.le_refl _)]
theorem advance_is {b : Nat} {v : Int} {m : M} (k e : Nat) (hk : k ≤ m.rest.size) (w : World) (h : CodeAt b v m w) :
    Calls Tryd.prog 112 #[.pointer (some ⟨b, 0, none⟩), .int .i64 (k : Int), .int .i64 (e : Int)] w fun r w' => r = .returned (.tuple #[]) ∧ CodeAt b v (m.adv k e) w' ∧ Keep b w w' := by
  by_cases he : e = 0
  · obtain ⟨c0, c1, c3, c4⟩ := code_cells h
    have f3 := code_free h 3
    have hl := code_lt h
    have hm : m.adv k e = { m with rest := m.rest.extract k m.rest.size } := by unfold M.adv; rw [if_pos he]
    have hc := Lib.hid (code_rest h (m.rest.extract k m.rest.size))
    rw [hm]
    subst he
    have hk' : (k : Int) ≤ (m.rest.size : Int) := by omega
    clear h hk
    go_enter Tryd.func112, Tryd.ntmps112
    go_wp2
    first | go_end0 | refine bodyPost_ret (results_none rfl _ _ _) rfl ?_
    exact ⟨rfl, hc.out, keep_set b w 3 _⟩
  · have hm : m.adv k e = { m.fail e with rest := ⟨#[]⟩ } := by unfold M.adv; rw [if_neg he]
    have he' : ((e : Int) != 0) = true := by simp; omega
    have HF := Lib.hid (fail_is e w h)
    rw [hm]
    have hR := ext_all m.rest
    have hr : (m.fail e).rest = m.rest := rfl
    generalize m.fail e = m1 at HF hr ⊢
    clear h
    go_enter Tryd.func112, Tryd.ntmps112
    go_wp2_with fail
    refine HF.out.mono ?_
    rintro r w1 ⟨rfl, h1, k1⟩
    obtain ⟨c0, c1, c3, c4⟩ := code_cells h1
    have f3 := code_free h1 3
    have hl := code_lt h1
    have hc := Lib.hid (code_rest h1 ⟨#[]⟩)
    have K1 := Lib.hid k1
    rw [hr] at c3
    clear h1 k1
    go_wp2
    first | go_end0 | refine bodyPost_ret (results_none rfl _ _ _) rfl ?_
    exact ⟨rfl, by first | exact hc.out | (rw [hR]; exact hc.out) | (simp only [hR]; exact hc.out), keep_trans K1.out (keep_set b w1 3 _)⟩
theorem rd_size (s : ByteArray) : (rd s.data.toList).2.1 ≤ s.size := by
  by_cases h : (rd s.data.toList).2.2 = 0
  · have := (rd_ok h).2.2.1
    rwa [size_l] at this
  · rw [(rd_err h).2]; omega
set_option maxRecDepth 100000 in
set_option maxHeartbeats 1000000 in
theorem limited_is {b : Nat} {v : Int} {m : M} (most n : Nat) (hn : n < 18446744073709551616) (hs : m.rest.size ≤ 1152921504606846976) (hg : m.gs.length ≤ 1073741824) (w : World) (h : CodeAt b v m w) :
    Calls Tryd.prog 93 #[.pointer (some ⟨b, 0, none⟩), .int .u64 (n : Int), .int .u64 (most : Int)] w fun r w' => r = .returned (.int .u64 ((limS most n m).1 : Int)) ∧ CodeAt b v (limS most n m).2 w' ∧ Keep b w w' := by
  by_cases hr : m.reading = true
  · obtain ⟨c0, c1, c3, c4⟩ := code_cells h
    rw [hr] at c1
    have hl := code_lt h
    obtain ⟨N, k, c, hrd⟩ : ∃ N k c, rd m.rest.data.toList = (N, k, c) := ⟨_, _, _, rfl⟩
    have hks := rd_size m.rest
    rw [hrd] at hks
    have HR := Lib.hid (read_is m.rest N k c hrd (by unfold maxLen; omega))
    have hL : limS most n m = if most < N then (0, m.adv k 2) else (N, m.adv k c) := by unfold limS; rw [if_pos hr, hrd]
    rw [hL]
    by_cases hN : most < N
    · rw [if_pos hN]
      have HA := Lib.hid (advance_is k 2 hks w h)
      have hN' : (most : Int) < (N : Int) := by omega
      clear h hL hrd hN hks
      go_enter Tryd.func93, Tryd.ntmps93
      go_wp2_with fail
      refine (HR.out _).mono ?_
      rintro r w1 ⟨rfl, rfl⟩
      go_wp2_with fail
      refine HA.out.mono ?_
      rintro r w1 ⟨rfl, h1, k1⟩
      go_wp2
      go_ret
      exact ⟨rfl, h1, k1⟩
    · rw [if_neg hN]
      have HA := Lib.hid (advance_is k c hks w h)
      have hN' : (N : Int) ≤ (most : Int) := by omega
      clear h hL hrd hN hks
      go_enter Tryd.func93, Tryd.ntmps93
      go_wp2_with fail
      refine (HR.out _).mono ?_
      rintro r w1 ⟨rfl, rfl⟩
      go_wp2_with fail
      refine HA.out.mono ?_
      rintro r w1 ⟨rfl, h1, k1⟩
      go_wp2
      go_ret
      exact ⟨rfl, h1, k1⟩
  · have hr : m.reading = false := by simpa using hr
    have hL : limS most n m = (n, { m with gs := m.gs ++ num n }) := by unfold limS; rw [if_neg (by rw [hr]; simp)]
    rw [hL]
    obtain ⟨x, hO, hR⟩ := h
    obtain ⟨ad, cap, rfl⟩ := ownRow_slice hR
    have c1 := objAt_cell hO 1 rfl
    rw [hr] at c1
    have c2 := objAt_cell hO 2 rfl
    have f2 := objAt_free hO 2
    have hl := objAt_lt hO
    have HN := Lib.hid (number_is n hn)
    have hz := num_len10 hn
    obtain ⟨i0, hi, hz0, hz1, hz2⟩ := info_parts Tryd.infoByte
    have Hi := Lib.hid hi
    have Hz0 := Lib.hid hz0
    have Hz1 := Lib.hid hz1
    have Hz2 := Lib.hid hz2
    have HO := Lib.hid hO
    have HR := Lib.hid hR
    have hsz : (numS n).size ≤ 10 := by rw [numS_size]; exact hz
    have HD := Lib.hid (numS_data n)
    clear hi hz0 hz1 hz2 hz hO hR
    generalize numS n = t at *
    go_enter Tryd.func93, Tryd.ntmps93
    go_wp2_with fail
    go_region_law (first
      | (go_simp; go_at_call 76; refine (HN.out _).mono ?_; rintro r w1 ⟨rfl, b1⟩; have O1 := objAt_next (w := w.drew) HO.out b1; have R1 := own_below (W := w.drew) HR.out.drew b1; have c2 := objAt_cell O1 2 rfl; have f2 := objAt_free O1 2; have hl1 := objAt_lt O1)
      | (refine step_appS (by rfl) _ _ 47 9 (by rfl) (b + 1) 5 i0 Tryd.underlying47 Tryd.underlying9 Hi.out Hz0.out Hz1.out Hz2.out _ _ _ (by rfl) R1 t (by rfl) (by omega) (by omega) ?_; intro v2 w2 own2 hg2; obtain ⟨ad2, cp2, rfl⟩ := ownRow_slice own2; have O2 := code_app O1 R1 hg2; have c2' := objAt_cell O2 2 rfl; have f2' := objAt_free O2 2; have hl2 := objAt_lt O2))
    all_goals
      go_wp2
      go_ret
      exact ⟨rfl, code_put (m.gs ++ num n) O2 own2 (by rw [List.length_append, ← HD.out, size_l]) (by rw [strCells_bytes, HD.out, byteCells_append]), keep_trans (keep_trans (keep_drew b w) (keep_below b1)) (keep_trans (keep_own R1 hg2) (keep_set b w2 2 _))⟩
theorem lim_le {most n : Nat} (h : n ≤ most) (m : M) : (limS most n m).1 ≤ most := by
  unfold limS
  split
  · split
    · exact Nat.zero_le _
    · simp only; omega
  · exact h
set_option maxRecDepth 100000 in
theorem number_in {b : Nat} {v : Int} {m : M} (n : Int) (hn : 0 ≤ n ∧ n ≤ 4611686018427387904) (hs : m.rest.size ≤ 1152921504606846976) (hg : m.gs.length ≤ 1073741824) (w : World) (h : CodeAt b v m w) :
    Calls Tryd.prog 46 #[.pointer (some ⟨b, 0, none⟩), .int .i64 n] w fun r w' => r = .returned (.int .i64 (numbS n m).1) ∧ CodeAt b v (numbS n m).2 w' ∧ Keep b w w' := by
  obtain ⟨k, rfl⟩ : ∃ k : Nat, n = k := ⟨n.toNat, by omega⟩
  have H := Lib.hid (limited_is 4611686018427387904 k (by omega) hs hg w h)
  have hle := lim_le (most := 4611686018427387904) (n := k) (by omega) m
  have e : numbS (k : Int) m = (((limS 4611686018427387904 k m).1 : Int), (limS 4611686018427387904 k m).2) := rfl
  rw [e]
  generalize limS 4611686018427387904 k m = r at H hle ⊢
  have w1 : IntKind.u64.wrap (k : Int) = (k : Int) := by rw [IntKind.wrap_u64]; omega
  have w2 : wrap64 (r.1 : Int) = (r.1 : Int) := by unfold wrap64; omega
  clear e h
  go_enter Tryd.func46, Tryd.ntmps46
  go_wp2_with fail
  refine H.out.mono ?_
  rintro x w1 ⟨rfl, h1, k1⟩
  go_wp2
  go_ret
  exact ⟨by first | rfl | (rw [w2]) | simp [w2], h1, k1⟩
set_option maxRecDepth 100000 in
theorem signed_is {b : Nat} {v : Int} {m : M} (n : Int) (hn : zig n ≤ 4611686018427387904) (hs : m.rest.size ≤ 1152921504606846976) (hg : m.gs.length ≤ 1073741824) (w : World) (h : CodeAt b v m w) :
    Calls Tryd.prog 96 #[.pointer (some ⟨b, 0, none⟩), .int .i64 n] w fun r w' => r = .returned (.int .i64 (sgnS n m).1) ∧ CodeAt b v (sgnS n m).2 w' ∧ Keep b w w' := by
  have hz := zig_lo n
  have HZ := Lib.hid (zig_any n w (by unfold zig at hn; simp [Lit.wf, IntKind.min, IntKind.max, IntKind.signed, IntKind.bits]; split at hn <;> omega))
  obtain ⟨k, hk⟩ : ∃ k : Nat, zig n = k := ⟨(zig n).toNat, by omega⟩
  have e : sgnS n m = (zag ((limS 4611686018427387904 k m).1 : Int), (limS 4611686018427387904 k m).2) := by
    have : (zig n).toNat = k := by omega
    unfold sgnS bindS pureS
    rw [this]
  rw [hk] at HZ hn
  have H := Lib.hid (limited_is 4611686018427387904 k (by omega) hs hg w h)
  have hle := lim_le (most := 4611686018427387904) (n := k) (by omega) m
  rw [e]
  generalize limS 4611686018427387904 k m = r at H hle ⊢
  have HG := Lib.hid (fun w' => zag_any (r.1 : Int) w' (by simp [Lit.wf, IntKind.min, IntKind.max, IntKind.signed, IntKind.bits]; omega))
  generalize zag (r.1 : Int) = q at HG ⊢
  clear e h
  go_enter Tryd.func96, Tryd.ntmps96
  go_wp2_with fail
  refine HZ.out.mono ?_
  rintro x w0 ⟨rfl, rfl⟩
  go_wp2_with fail
  refine H.out.mono ?_
  rintro x w1 ⟨rfl, h1, k1⟩
  go_wp2_with fail
  refine (HG.out _).mono ?_
  rintro x w2 ⟨rfl, rfl⟩
  go_wp2
  go_ret
  exact ⟨rfl, h1, k1⟩
/-- What end answers: the first error; bytes that remain are one, too. -/
def endE (m : M) : Nat := if m.rest.size ≠ 0 then (if m.e = 0 then 4 else m.e) else m.e
set_option maxRecDepth 100000 in
theorem end_is {b : Nat} {v : Int} {m : M} (w : World) (h : CodeAt b v m w) :
    Calls Tryd.prog 27 #[.pointer (some ⟨b, 0, none⟩)] w fun r w' => r = .returned (.int .i64 (endE m : Int)) ∧ Keep b w w' := by
  obtain ⟨c0, c1, c3, c4⟩ := code_cells h
  have hl := code_lt h
  by_cases hr : m.rest.size = 0
  · have e : endE m = m.e := by unfold endE; rw [if_neg (by omega)]
    have e0 : m.rest = ⟨#[]⟩ := empty_of_size hr
    rw [e]
    rw [e0] at c3
    clear h
    go_enter Tryd.func27, Tryd.ntmps27
    go_wp2
    go_ret
    exact ⟨rfl, keep_refl b w⟩
  · have e : endE m = (m.fail 4).e := by unfold endE M.fail; rw [if_pos hr]
    have HF := Lib.hid (fail_is 4 w h)
    have hne : ¬ m.rest.toList = [] := by
      intro e0
      apply hr
      have := congrArg List.length e0
      rw [ByteArray.toList_eq, size_l] at this
      exact this
    have hb : m.rest.toList.isEmpty = false := by simpa using hne
    rw [e]
    clear h e hr
    generalize m.fail 4 = m1 at HF ⊢
    go_enter Tryd.func27, Tryd.ntmps27
    go_wp2_with fail
    refine HF.out.mono ?_
    rintro x w1 ⟨rfl, h1, k1⟩
    obtain ⟨d0, d1, d3, d4⟩ := code_cells h1
    have hl1 := code_lt h1
    clear h1
    go_wp2
    go_ret
    exact ⟨rfl, k1⟩
theorem upTo_is (b : Nat) (most : Nat) (w : World) :
    Calls Tryd.prog 48 #[.pointer (some ⟨b, 0, none⟩), .int .u64 (most : Int)] w fun r w' => r = .returned (.func (.func 94) #[] #[.pointer (some ⟨w.heap.size, 0, none⟩), .pointer (some ⟨w.heap.size + 1, 0, none⟩)]) ∧
      ObjAt w.heap.size #[.pointer (some ⟨b, 0, none⟩)] 78 w' ∧ ObjAt (w.heap.size + 1) #[.int .u64 (most : Int)] 74 w' ∧ Below w.heap.size w w' := by
  have o1 := objAt_new w #[.pointer (some ⟨b, 0, none⟩)] 78
  have o2 := objAt_new (w.alloc (.cells #[.pointer (some ⟨b, 0, none⟩)] 78)) #[.int .u64 (most : Int)] 74
  have o3 := Lib.hid (objAt_next o1 (below_one (w.alloc (.cells #[.pointer (some ⟨b, 0, none⟩)] 78)) (.cells #[.int .u64 (most : Int)] 74)))
  rw [World.size_alloc] at o2
  have O2 := Lib.hid o2
  clear o1 o2
  go_enter Tryd.func48, Tryd.ntmps48
  go_wp2
  go_ret
  exact ⟨rfl, o3.out, O2.out, below_trans (below_one _ _) (below_one _ _) (by simp)⟩
set_option maxRecDepth 100000 in
theorem count_is {b : Nat} {v : Int} {m : M} (most n cb mb : Nat) (hn : n ≤ most) (hm : most ≤ 1000) (hs : m.rest.size ≤ 1152921504606846976) (hg : m.gs.length ≤ 1073741824) (w : World) (h : CodeAt b v m w)
    (h1 : ObjAt cb #[.pointer (some ⟨b, 0, none⟩)] 78 w) (h2 : ObjAt mb #[.int .u64 (most : Int)] 74 w) :
    Calls Tryd.prog 94 #[.int .i64 (n : Int), .pointer (some ⟨cb, 0, none⟩), .pointer (some ⟨mb, 0, none⟩)] w fun r w' => r = .returned (.int .i64 ((limS most n m).1 : Int)) ∧ CodeAt b v (limS most n m).2 w' ∧ Keep b w w' := by
  have H := Lib.hid (limited_is most n (by omega) hs hg w h)
  have hle := lim_le hn m
  generalize limS most n m = r at H hle ⊢
  have c1 := objAt_cell h1 0 rfl
  have c2 := objAt_cell h2 0 rfl
  have l1 := objAt_lt h1
  have l2 := objAt_lt h2
  have w1 : IntKind.u64.wrap (n : Int) = (n : Int) := by rw [IntKind.wrap_u64]; omega
  have w2 : wrap64 (r.1 : Int) = (r.1 : Int) := by unfold wrap64; omega
  clear h h1 h2
  go_enter Tryd.func94, Tryd.ntmps94
  go_wp2_with fail
  refine H.out.mono ?_
  rintro x w1 ⟨rfl, h1, k1⟩
  go_wp2
  go_ret
  exact ⟨by first | rfl | (rw [w2]) | simp [w2], h1, k1⟩
end Go.Proofs.YtdbopgmckndmeaaDoor
