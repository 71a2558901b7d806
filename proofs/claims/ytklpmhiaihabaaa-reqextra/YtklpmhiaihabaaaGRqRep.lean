/- Package req: replies, as bytes and back. -/
import Derived.Test.YtklpmhiaihabaaaGRqM
import Derived.Test.YtklpmhiaihabaaaGDlNum
namespace Go.Proofs.Ytklpmhiaihabaaa
open Go.RowKit Go.Lib

/-- Two blocks beside a coder: what is passed, and what is handed back. -/
def PairSt (b : Nat) (v : Int) (t : TypeId) (m : M) (vs rs : Array Value) (w0 w : World) : Prop :=
  CodeAt b v m w ∧ ObjAt w0.heap.size vs t w ∧ ObjAt (w0.heap.size + 1) rs t w ∧ Keep b w0 w ∧ b < w0.heap.size ∧ t ≠ 5
theorem pairSt_new {b : Nat} {v : Int} {t : TypeId} {m : M} {w : World} (vs rs : Array Value) (h : CodeAt b v m w) (ht : t ≠ 5) : PairSt b v t m vs rs w ((w.alloc (.cells vs t)).alloc (.cells rs t)) := by
  have o1 := objAt_new w vs t
  have o2 := objAt_new (w.alloc (.cells vs t)) rs t
  rw [World.size_alloc] at o2
  exact ⟨code_alloc (code_alloc h _) _, objAt_next o1 (below_one _ _), o2, keep_trans (keep_alloc b w _) (keep_alloc b _ _), code_lt h, ht⟩
theorem pairSt_call {b : Nat} {v : Int} {t : TypeId} {m m' : M} {vs rs : Array Value} {w0 w w1 : World} (h : PairSt b v t m vs rs w0 w) (hc : CodeAt b v m' w1) (hk : Keep b w w1) : PairSt b v t m' vs rs w0 w1 := by
  obtain ⟨_, h2, h3, h4, h6, h7⟩ := h
  exact ⟨hc, keep_obj h2 hk (by omega) h7, keep_obj h3 hk (by omega) h7, keep_trans h4 hk, h6, h7⟩
theorem pairSt_store {b : Nat} {v : Int} {t : TypeId} {m : M} {vs rs : Array Value} {w0 w : World} (h : PairSt b v t m vs rs w0 w) (j : Nat) (u : Value) : PairSt b v t m (vs.setIfInBounds j u) rs w0 (w.setCell ⟨w0.heap.size, j, none⟩ u) := by
  obtain ⟨h1, h2, h3, h4, h6, h7⟩ := h
  exact ⟨code_set h1 h2 (by omega) h7 j u, objAt_set h2 j u, objAt_other h3 (by omega) j u, keep_new h4 (Nat.le_refl _) j u, h6, h7⟩
theorem pairSt_back {b : Nat} {v : Int} {t : TypeId} {m : M} {vs rs : Array Value} {w0 w : World} (h : PairSt b v t m vs rs w0 w) (j : Nat) (u : Value) : PairSt b v t m vs (rs.setIfInBounds j u) w0 (w.setCell ⟨w0.heap.size + 1, j, none⟩ u) := by
  obtain ⟨h1, h2, h3, h4, h6, h7⟩ := h
  exact ⟨code_set h1 h3 (by omega) h7 j u, objAt_other h2 (by omega) j u, objAt_set h3 j u, keep_new h4 (by omega) j u, h6, h7⟩
theorem isTime_is (n : Int) (w : World) :
    Calls Try.prog 60 #[.int .i64 n] w fun e w' => e = .returned (.bool (inR n 0 1099511627776)) ∧ w = w' := by
  unfold inR
  by_cases h : 0 ≤ n
  · by_cases h2 : n ≤ 1099511627776
    · have h1 : decide (0 ≤ n) = true := decide_eq_true h
      have h3 : decide (n ≤ 1099511627776) = true := decide_eq_true h2
      rw [h1, h3]
      go_enter Try.func60, Try.ntmps60
      go_wp2
      go_ret
      exact ⟨rfl, rfl⟩
    · have h1 : decide (0 ≤ n) = true := decide_eq_true h
      have h3 : decide (n ≤ 1099511627776) = false := decide_eq_false h2
      rw [h1, h3]
      clear h2
      go_enter Try.func60, Try.ntmps60
      go_wp2
      go_ret
      exact ⟨rfl, rfl⟩
  · have h1 : decide (0 ≤ n) = false := decide_eq_false h
    rw [h1]
    clear h
    go_enter Try.func60, Try.ntmps60
    go_wp2
    go_ret
    exact ⟨by simp, rfl⟩
/-- What checkReply answers. -/
def pchkR (r : RepD) : Nat := if goodP r then 0 else 1
theorem checkReply_is (r : RepD) (w : World) :
    Calls Try.prog 46 #[.agg #[.int .i64 r.code, .int .i64 r.rev]] w fun e w' => e = .returned (.int .i64 (pchkR r : Nat)) ∧ Below w.heap.size w w' := by
  have HT := Lib.hid (isTime_is r.rev)
  have hE : pchkR r = if inR r.code 0 10 = true then (if inR r.rev 0 1099511627776 = true then 0 else 1) else 1 := by
    unfold pchkR goodP
    cases inR r.code 0 10 <;> cases inR r.rev 0 1099511627776 <;> rfl
  obtain ⟨c, hc⟩ : ∃ c, inR r.rev 0 1099511627776 = c := ⟨_, rfl⟩
  rw [hc] at hE HT
  rw [hE]
  clear hE hc
  by_cases h0 : 0 ≤ r.code
  · by_cases h1 : r.code ≤ 10
    · rw [if_pos (by rw [inR_iff]; exact ⟨h0, h1⟩)]
      have k0 : decide (r.code < 0) = false := by simp; omega
      have k1 : decide (10 < r.code) = false := by simp; omega
      cases c with
      | true =>
        go_enter Try.func46, Try.ntmps46
        go_wp2_with fail
        refine (HT.out _).mono ?_
        rintro e w1 ⟨rfl, rfl⟩
        go_wp2
        go_ret
        exact ⟨rfl, below_one _ _⟩
      | false =>
        go_enter Try.func46, Try.ntmps46
        go_wp2_with fail
        refine (HT.out _).mono ?_
        rintro e w1 ⟨rfl, rfl⟩
        go_wp2
        go_ret
        exact ⟨rfl, below_one _ _⟩
    · rw [if_neg (by rw [inR_iff]; omega)]
      have k0 : decide (r.code < 0) = false := by simp; omega
      have k1 : decide (10 < r.code) = true := by simp; omega
      clear h1
      go_enter Try.func46, Try.ntmps46
      go_wp2
      go_ret
      exact ⟨rfl, below_one _ _⟩
  · rw [if_neg (by rw [inR_iff]; omega)]
    have k0 : decide (r.code < 0) = true := by simp; omega
    clear h0
    go_enter Try.func46, Try.ntmps46
    go_wp2
    go_ret
    exact ⟨rfl, below_one _ _⟩
/-- What passing a reply wants: one that may be written, or one of zeros that is read over. -/
def InP (r : RepD) (m : M) : Prop := (m.reading = false ∧ readP r) ∨ (m.reading = true ∧ r = zeroP)
set_option maxRecDepth 100000 in
set_option maxHeartbeats 4000000 in
theorem wholeReply_is {b : Nat} {m : M} (r : RepD) (hr : InP r m) (hs : m.rest.size ≤ 1152921504606846976) (hg : m.gs.length ≤ 1000000000) (w : World) (h : CodeAt b 3 m w) :
    Calls Try.prog 47 #[.pointer (some ⟨b, 0, none⟩), .agg #[.int .i64 r.code, .int .i64 r.rev]] w fun x w' => x = .returned (.agg #[.int .i64 (pS r m).1.code, .int .i64 (pS r m).1.rev]) ∧ CodeAt b 3 (pS r m).2 w' ∧ Keep b w w' := by
  have s0 := pairSt_new (t := 39) #[.int .i64 r.code, .int .i64 r.rev] #[.int .i64 0, .int .i64 0] h (by decide)
  have n0 : 0 ≤ r.code ∧ r.code ≤ 4611686018427387904 := by
    rcases hr with ⟨_, h⟩ | ⟨_, rfl⟩
    · exact h.1
    · exact ⟨by decide, by decide⟩
  have n1 : 0 ≤ r.rev ∧ r.rev ≤ 4611686018427387904 := by
    rcases hr with ⟨_, h⟩ | ⟨_, rfl⟩
    · exact h.2
    · exact ⟨by decide, by decide⟩
  have l1 := lim_numb n0.2 m
  obtain ⟨r1, e1⟩ : ∃ x, numbS r.code m = x := ⟨_, rfl⟩
  rw [e1] at l1
  replace l1 : r1.2.gs.length ≤ 1000000000 + 17 ∧ r1.2.rest.size ≤ 1152921504606846976 := ⟨by omega, by omega⟩
  obtain ⟨r2, e2⟩ : ∃ x, numbS r.rev r1.2 = x := ⟨_, rfl⟩
  have eS : pS r m = (⟨r1.1, r2.1⟩, r2.2) := by simp only [pS, bindS, pureS, e1, e2]
  rw [eS]
  clear eS
  have hb0 := s0.2.2.2.2.1
  have H0 := number_in r.code n0 hs (by omega) _ s0.1
  rw [e1] at H0
  have H0 := Lib.hid H0
  have S0 := Lib.hid s0
  have c0 := objAt_cell s0.2.1 0 rfl
  clear s0 h hr
  go_enter Try.func47, Try.ntmps47
  go_wp2_with fail
  refine H0.out.mono ?_
  rintro x w1 ⟨rfl, h1, k1⟩
  have s1 := pairSt_call S0.out h1 k1
  have s1' := pairSt_store s1 0 (.int .i64 r1.1)
  have H1 := number_in r.rev n1 l1.2 (by omega) _ s1'.1
  rw [e2] at H1
  have H1 := Lib.hid H1
  clear c0
  have a1_0 := objAt_cell s1.2.1 0 rfl
  have a1_1 := objAt_cell s1.2.1 1 rfl
  have f1 := objAt_free s1.2.1 0
  have z1 := objAt_lt s1.2.1
  have S1 := Lib.hid s1'
  clear h1 k1 s1 s1' H0 S0
  go_wp2_with fail
  refine H1.out.mono ?_
  rintro x w3 ⟨rfl, h3, k3⟩
  have s3 := pairSt_call S1.out h3 k3
  have s3' := pairSt_store s3 1 (.int .i64 r2.1)
  clear a1_0 a1_1 f1 z1
  have a3_0 := objAt_cell s3.2.1 0 rfl
  have a3_1 := objAt_cell s3.2.1 1 rfl
  have f3 := objAt_free s3.2.1 1
  have z3 := objAt_lt s3.2.1
  have p0 := objAt_cell s3.2.2.1 0 rfl
  have y_0 := objAt_free s3.2.2.1 0
  have p1 := objAt_cell s3.2.2.1 1 rfl
  have y_1 := objAt_free s3.2.2.1 1
  have zz := objAt_lt s3.2.2.1
  have sF := pairSt_back (pairSt_back s3' 0 (.int .i64 r1.1)) 1 (.int .i64 r2.1)
  have SF := Lib.hid sF
  have t0 := objAt_cell sF.2.2.1 0 rfl
  have t1 := objAt_cell sF.2.2.1 1 rfl
  have T := Lib.hid (And.intro t0 t1)
  clear h3 k3 s3 s3' sF H1 S1 t0 t1
  go_wp2
  obtain ⟨t0, t1⟩ := T.out
  exact bodyPost_ret (v := .agg #[.int .i64 r1.1, .int .i64 r2.1]) (by simp [results, Try.results47, go_sem, t0, t1]) rfl ⟨rfl, SF.out.1, SF.out.2.2.2.1⟩
theorem pB_ne (r : RepD) : pB r ≠ [] := by
  have h := num_pos r.code.toNat
  unfold pB intE
  intro e
  have := congrArg List.length e
  simp only [List.length_append, List.length_nil] at this
  omega
set_option maxRecDepth 100000 in
set_option maxHeartbeats 4000000 in
theorem reply_any (r : RepD) (w : World) :
    Calls Try.prog 18 #[.agg #[.int .i64 r.code, .int .i64 r.rev]] w fun e w' => e = .returned (.tuple #[.string ⟨(pencR r).1.toArray⟩, .int .i64 ((pencR r).2 : Nat)]) ∧ Below w.heap.size w w' := by
  have bW := below_one w (.cells #[.int .i64 r.code, .int .i64 r.rev] 39)
  have oB := objAt_new w #[.int .i64 r.code, .int .i64 r.rev] 39
  have HC := checkReply_is r (w.alloc (.cells #[.int .i64 r.code, .int .i64 r.rev] 39))
  by_cases hg : goodP r = true
  · have hc : pchkR r = 0 := by unfold pchkR; rw [if_pos hg]
    have hr : pencR r = (pB r, 0) := by unfold pencR; rw [if_pos hg]
    have hx := (goodP_iff r).1 hg
    rw [hr]
    rw [hc] at HC
    have HC := Lib.hid HC
    have OB := Lib.hid oB
    have BW := Lib.hid bW
    have HG := Lib.hid hg
    have HX : Hid (readP r) := ⟨by omega, by omega⟩
    have b0 := objAt_cell oB 0 rfl
    have b1 := objAt_cell oB 1 rfl
    clear oB bW hg hr hx hc
    go_enter Try.func18, Try.ntmps18
    go_wp2_with fail
    refine HC.out.mono ?_
    rintro e w1 ⟨rfl, x1⟩
    have hB1 := below_trans BW.out x1 (by simp)
    have O1 := objAt_next OB.out x1
    obtain ⟨W1, hW1⟩ : ∃ W1, w1.alloc (.cells #[.int .i64 3, .bool false, .pointer none, .slice none 0 0, .string ⟨#[]⟩, .int .i64 0] 95) = W1 := ⟨_, rfl⟩
    have bA := below_one w1 (.cells #[.int .i64 3, .bool false, .pointer none, .slice none 0 0, .string ⟨#[]⟩, .int .i64 0] 95)
    have O2 := objAt_next O1 bA
    have hc0 := code_new w1 3 false ⟨#[]⟩
    have H1 := Lib.hid (writer_is 3 w1)
    rw [hW1] at bA O2 hc0 H1
    have sW1 : W1.heap.size = w1.heap.size + 1 := by rw [← hW1, World.size_alloc]
    have HW := wholeReply_is r (.inl ⟨rfl, HX.out⟩) (Nat.zero_le _) (Nat.zero_le _) _ hc0
    rw [wrt_p HG.out _ rfl] at HW
    have HW := Lib.hid HW
    have HB1 := Lib.hid hB1
    have HBA := Lib.hid bA
    clear b0 b1
    have a0 := objAt_cell O2 0 rfl
    have a1 := objAt_cell O2 1 rfl
    have aL := objAt_lt O2
    clear O1 O2 hc0 hB1 bA hW1
    go_wp2_with fail
    refine H1.out.mono ?_
    rintro e w1' ⟨rfl, rfl⟩
    go_wp2_with fail
    refine HW.out.mono ?_
    rintro e w2 ⟨rfl, hc2, hk2⟩
    have hne : ([] ++ pB r : List UInt8) ≠ [] := by rw [List.nil_append]; exact pB_ne r
    have HWr := Lib.hid (written_is hne rfl w2 hc2)
    have HK := Lib.hid hk2
    clear hc2 hk2 hne a0 a1 aL HW H1
    go_wp2_with fail
    refine HWr.out.mono ?_
    rintro e w3 ⟨rfl, hk3⟩
    go_wp2
    go_ret2
    refine ⟨rfl, ?_⟩
    have h2 := keep_low (keep_trans HK.out hk3) (by omega)
    exact below_trans HB1.out (HBA.out.trans h2) HB1.out.size
  · have hc : pchkR r = 1 := by unfold pchkR; rw [if_neg hg]
    have hr : pencR r = ([], 1) := by unfold pencR; rw [if_neg hg]
    rw [hr]
    rw [hc] at HC
    have HC := Lib.hid HC
    have BW := Lib.hid bW
    have b0 := objAt_cell oB 0 rfl
    have b1 := objAt_cell oB 1 rfl
    clear oB bW hg hr hc
    go_enter Try.func18, Try.ntmps18
    go_wp2_with fail
    refine HC.out.mono ?_
    rintro e w1 ⟨rfl, x1⟩
    go_wp2
    go_ret2
    exact ⟨rfl, below_trans BW.out x1 (by simp)⟩
theorem put2 {b : Nat} {x y : Value} {t : TypeId} {w : World} (h : ObjAt b #[x, y] t w) (u v : Value) : ObjAt b #[u, v] t ((w.setCell ⟨b, 0, none⟩ u).setCell ⟨b, 1, none⟩ v) := objAt_set (objAt_set h 0 u) 1 v
set_option maxRecDepth 100000 in
set_option maxHeartbeats 4000000 in
theorem readReply_any (s : ByteArray) (hs : s.size ≤ 1152921504606846976) (w : World) :
    Calls Try.prog 20 #[.string s] w fun e w' => e = .returned (.tuple #[.agg #[.int .i64 (pdecR s.data.toList).1.code, .int .i64 (pdecR s.data.toList).1.rev], .int .i64 ((pdecR s.data.toList).2 : Nat)]) ∧ Below w.heap.size w w' := by
  obtain ⟨W0, hW0⟩ : ∃ W0, w.alloc (.cells #[.int .i64 0, .int .i64 0] 39) = W0 := ⟨_, rfl⟩
  have o0 := objAt_new w #[.int .i64 0, .int .i64 0] 39
  have bW := below_one w (.cells #[.int .i64 0, .int .i64 0] 39)
  have sW : W0.heap.size = w.heap.size + 1 := by rw [← hW0, World.size_alloc]
  rw [hW0] at o0 bW
  have bA := below_one W0 (.cells #[.int .i64 3, .bool true, .pointer none, .slice none 0 0, .string s, .int .i64 0] 95)
  have hc0 := code_new W0 3 true s
  have HWh := wholeReply_is zeroP (.inr ⟨rfl, rfl⟩) hs (Nat.zero_le _) _ hc0
  have hcs := read_p s
  obtain ⟨q, hq⟩ : ∃ q, pS zeroP ⟨true, [], s, 0⟩ = q := ⟨_, rfl⟩
  rw [hq] at HWh hcs
  have H1 := reader_is s 3 W0
  rw [sW] at HWh H1
  have H1 := Lib.hid H1
  generalize pdecR s.data.toList = D at hcs ⊢
  have HWh := Lib.hid HWh
  have BW := Lib.hid bW
  have OA := Lib.hid (objAt_next o0 bA)
  clear hq o0 bW bA hc0
  go_enter Try.func20, Try.ntmps20
  go_wp2_with fail
  refine H1.out.mono ?_
  rintro e w1' ⟨rfl, rfl⟩
  clear H1
  go_wp2_with fail
  refine HWh.out.mono ?_
  rintro e w2 ⟨rfl, hc2, hk2⟩
  have hsz : (W0.alloc (.cells #[.int .i64 3, .bool true, .pointer none, .slice none 0 0, .string s, .int .i64 0] 95)).heap.size = w.heap.size + 2 := by rw [World.size_alloc, sW]
  have hs2 := hk2.size
  rw [hsz] at hs2
  have bW2 : Below w.heap.size w w2 := keep_below_of BW.out sW.symm _ hk2
  have o2 := keep_obj OA.out hk2 (by omega) (by decide)
  obtain ⟨T, hTT⟩ : ∃ T, w2.heap.size = T := ⟨_, rfl⟩
  have oT := objAt_new w2 #[.int .i64 q.1.code, .int .i64 q.1.rev] 39
  have b3 := below_one w2 (.cells #[.int .i64 q.1.code, .int .i64 q.1.rev] 39)
  have o3 := objAt_next o2 b3
  have HEnd := Lib.hid (end_is _ (code_next hc2 b3))
  have O3 := Lib.hid o3
  have OT := Lib.hid oT
  have BW3 := Lib.hid (below_trans bW2 b3 bW2.size)
  rw [hTT] at OT
  have hT2 : w.heap.size + 2 ≤ T := by omega
  clear hc2 hk2 o2 oT o3 bW2
  go_wp2_with fail
  refine HEnd.out.mono ?_
  rintro e w4 ⟨rfl, hk4⟩
  have bs4 := hk4.size
  have s3 : (w2.alloc (.cells #[.int .i64 q.1.code, .int .i64 q.1.rev] 39)).heap.size = T + 1 := by rw [World.size_alloc, hTT]
  rw [s3] at bs4
  have o4 := keep_obj O3.out hk4 (by omega) (by decide)
  have T4 := keep_obj OT.out hk4 (by omega) (by decide)
  have b4 : Below w.heap.size w w4 := BW3.out.trans ((keep_low hk4 (by omega)).mono (by omega))
  clear hk4 HEnd O3 OT b3 s3 HWh OA
  rcases hcs with ⟨e, hne, hD, he⟩ | ⟨r, hok, hr, he, hD⟩
  · rw [he]
    have HD := Lib.hid hD
    have hne' : ((e : Int) != 0) = true := by simp; omega
    have B4 := Lib.hid (((b4).setCell (p := ⟨w.heap.size, 0, none⟩) (Nat.le_refl _) (.int .i64 0)).setCell (p := ⟨w.heap.size, 1, none⟩) (Nat.le_refl _) (.int .i64 0))
    have c0 := objAt_cell o4 0 rfl
    have c1 := objAt_cell o4 1 rfl
    have f0 := objAt_free o4 0
    have f1 := objAt_free o4 1
    have zl := objAt_lt o4
    have oF := put2 o4 (.int .i64 0) (.int .i64 0)
    have t0 := objAt_cell oF 0 rfl
    have t1 := objAt_cell oF 1 rfl
    have TT := Lib.hid (And.intro t0 t1)
    clear oF t0 t1
    clear hD hne T4 b4 he
    go_wp2
    obtain ⟨t0, t1⟩ := TT.out
    exact bodyPost_ret (v := .tuple #[.agg #[.int .i64 0, .int .i64 0], .int .i64 (e : Int)]) (by simp [results, Try.results20, go_sem, t0, t1]) rfl (by rw [HD.out]; exact ⟨rfl, B4.out⟩)
  · rw [he]
    subst hr
    have HC := Lib.hid (checkReply_is q.1 w4)
    have x0 := objAt_cell T4 0 rfl
    have x1 := objAt_cell T4 1 rfl
    have xl := objAt_lt T4
    have O4 := Lib.hid o4
    have OT := Lib.hid T4
    have BB := Lib.hid b4
    have HD := Lib.hid hD
    obtain ⟨c, hc⟩ : ∃ c, pchkR q.1 = c := ⟨_, rfl⟩
    rw [hc] at HC
    have HCc := Lib.hid hc
    clear o4 T4 b4 hD hok he hc
    go_wp2_with fail
    refine HC.out.mono ?_
    rintro e w5 ⟨rfl, b5⟩
    have o5 := objAt_next O4.out b5
    have T5 := objAt_next OT.out b5
    have hB5 := below_trans BB.out b5 BB.out.size
    have y0 := objAt_cell T5 0 rfl
    have y1 := objAt_cell T5 1 rfl
    have yl := objAt_lt T5
    clear x0 x1 xl O4 OT BB HC b5 T5
    by_cases hg : goodP q.1 = true
    · have hD := HD.out
      rw [if_pos hg] at hD
      have h0 : c = 0 := by rw [← HCc.out]; unfold pchkR; rw [if_pos hg]
      subst h0
      have HD := Lib.hid hD
      have B4 := Lib.hid (((hB5).setCell (p := ⟨w.heap.size, 0, none⟩) (Nat.le_refl _) (.int .i64 q.1.code)).setCell (p := ⟨w.heap.size, 1, none⟩) (Nat.le_refl _) (.int .i64 q.1.rev))
      have c0 := objAt_cell o5 0 rfl
      have c1 := objAt_cell o5 1 rfl
      have f0 := objAt_free o5 0
      have f1 := objAt_free o5 1
      have zl := objAt_lt o5
      have oF := put2 o5 (.int .i64 q.1.code) (.int .i64 q.1.rev)
      have t0 := objAt_cell oF 0 rfl
      have t1 := objAt_cell oF 1 rfl
      have TT := Lib.hid (And.intro t0 t1)
      clear oF t0 t1 hB5 o5 hg hD
      go_wp2
      obtain ⟨t0, t1⟩ := TT.out
      exact bodyPost_ret (v := .tuple #[.agg #[.int .i64 q.1.code, .int .i64 q.1.rev], .int .i64 0]) (by simp [results, Try.results20, go_sem, t0, t1]) rfl (by rw [HD.out]; exact ⟨rfl, B4.out⟩)
    · have hD := HD.out
      rw [if_neg hg] at hD
      have h0 : c = 1 := by rw [← HCc.out]; unfold pchkR; rw [if_neg hg]
      subst h0
      have HD := Lib.hid hD
      have B4 := Lib.hid (((hB5).setCell (p := ⟨w.heap.size, 0, none⟩) (Nat.le_refl _) (.int .i64 0)).setCell (p := ⟨w.heap.size, 1, none⟩) (Nat.le_refl _) (.int .i64 0))
      have c0 := objAt_cell o5 0 rfl
      have c1 := objAt_cell o5 1 rfl
      have f0 := objAt_free o5 0
      have f1 := objAt_free o5 1
      have zl := objAt_lt o5
      have oF := put2 o5 (.int .i64 0) (.int .i64 0)
      have t0 := objAt_cell oF 0 rfl
      have t1 := objAt_cell oF 1 rfl
      have TT := Lib.hid (And.intro t0 t1)
      clear oF t0 t1 hB5 o5 hg hD
      go_wp2
      obtain ⟨t0, t1⟩ := TT.out
      exact bodyPost_ret (v := .tuple #[.agg #[.int .i64 0, .int .i64 0], .int .i64 1]) (by simp [results, Try.results20, go_sem, t0, t1]) rfl (by rw [HD.out]; exact ⟨rfl, B4.out⟩)
end Go.Proofs.Ytklpmhiaihabaaa
