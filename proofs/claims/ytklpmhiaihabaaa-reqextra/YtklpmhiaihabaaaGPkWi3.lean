import Derived.Test.YtklpmhiaihabaaaGPkWi2
import Derived.Test.YtklpmhiaihabaaaGPkSt2
/- The coder of package wire: a job, a node, a lease. -/
namespace Go.Proofs.Ytklpmhiaihabaaa
open Go.RowKit Go.Lib

/-- The tables for UTF-8 lie below the coder. -/
def Env [Inhabited UV] (b : Nat) (w : World) : Prop := ∃ w0 : World, w0.heap.size = b ∧ Tabs w0 ∧ Below b w0 w
theorem env_tabs [Inhabited UV] {b : Nat} {w : World} (h : Env b w) : Tabs w := by
  obtain ⟨w0, rfl, hT, hb⟩ := h
  exact hT.below hb
theorem env_keep [Inhabited UV] {b : Nat} {w w' : World} (h : Env b w) (hk : Keep b w w') : Env b w' := by
  obtain ⟨w0, hs, hT, hb⟩ := h
  have := hb.size
  exact ⟨w0, hs, hT, hb.trans (keep_low hk (by omega))⟩
/-- A row that is passed: the coder, the row, the row that is handed back. -/
def RowSt [Inhabited UV] (b : Nat) (v : Int) (t : TypeId) (m : M) (vs rs : Array Value) (w0 w : World) : Prop :=
  CodeAt b v m w ∧ ObjAt w0.heap.size vs t w ∧ ObjAt (w0.heap.size + 1) rs t w ∧ Keep b w0 w ∧ Env b w ∧ b < w0.heap.size ∧ t ≠ 5
theorem rowSt_new [Inhabited UV] {b : Nat} {v : Int} {t : TypeId} {m : M} {w : World} (vs rs : Array Value) (h : CodeAt b v m w) (hE : Env b w) (ht : t ≠ 5) : RowSt b v t m vs rs w ((w.alloc (.cells vs t)).alloc (.cells rs t)) := by
  have o1 := objAt_new w vs t
  have o2 := objAt_new (w.alloc (.cells vs t)) rs t
  rw [World.size_alloc] at o2
  exact ⟨code_alloc (code_alloc h _) _, objAt_next o1 (below_one _ _), o2, keep_trans (keep_alloc b w _) (keep_alloc b _ _), env_keep (env_keep hE (keep_alloc b w _)) (keep_alloc b _ _), code_lt h, ht⟩
theorem rowSt_call [Inhabited UV] {b : Nat} {v : Int} {t : TypeId} {m m' : M} {vs rs : Array Value} {w0 w w1 : World} (h : RowSt b v t m vs rs w0 w) (hc : CodeAt b v m' w1) (hk : Keep b w w1) : RowSt b v t m' vs rs w0 w1 := by
  obtain ⟨_, h2, h3, h4, h5, h6, h7⟩ := h
  exact ⟨hc, keep_obj h2 hk (by omega) h7, keep_obj h3 hk (by omega) h7, keep_trans h4 hk, env_keep h5 hk, h6, h7⟩
theorem env_new [Inhabited UV] {b c : Nat} {w w0 : World} (h : Env b w) (hb : b < w0.heap.size) (hc : w0.heap.size ≤ c) (j : Nat) (u : Value) : Env b (w.setCell ⟨c, j, none⟩ u) := by
  obtain ⟨x, hs, hT, hl⟩ := h
  exact ⟨x, hs, hT, hl.setCell (p := ⟨c, j, none⟩) (by show b ≤ c; omega) u⟩
theorem rowSt_store [Inhabited UV] {b : Nat} {v : Int} {t : TypeId} {m : M} {vs rs : Array Value} {w0 w : World} (h : RowSt b v t m vs rs w0 w) (j : Nat) (u : Value) : RowSt b v t m (vs.setIfInBounds j u) rs w0 (w.setCell ⟨w0.heap.size, j, none⟩ u) := by
  obtain ⟨h1, h2, h3, h4, h5, h6, h7⟩ := h
  exact ⟨code_set h1 h2 (by omega) h7 j u, objAt_set h2 j u, objAt_other h3 (by omega) j u, keep_new h4 (Nat.le_refl _) j u, env_new h5 h6 (Nat.le_refl _) j u, h6, h7⟩
theorem rowSt_back [Inhabited UV] {b : Nat} {v : Int} {t : TypeId} {m : M} {vs rs : Array Value} {w0 w : World} (h : RowSt b v t m vs rs w0 w) (j : Nat) (u : Value) : RowSt b v t m vs (rs.setIfInBounds j u) w0 (w.setCell ⟨w0.heap.size + 1, j, none⟩ u) := by
  obtain ⟨h1, h2, h3, h4, h5, h6, h7⟩ := h
  exact ⟨code_set h1 h3 (by omega) h7 j u, objAt_other h2 (by omega) j u, objAt_set h3 j u, keep_new h4 (by omega) j u, env_new h5 h6 (by omega) j u, h6, h7⟩
set_option maxRecDepth 100000 in
set_option maxHeartbeats 2000000 in
theorem codeLease_is [Inhabited UV] {b : Nat} {v : Int} {m : M} (j : LeaseD) (hok : okLease V8 j) (hs : m.rest.size ≤ 1152921504606846976) (hg : m.gs.length ≤ 1000000000) (w : World) (h : CodeAt b v m w) (hE : Env b w) :
    Calls Try.prog 128 #[.pointer (some ⟨b, 0, none⟩), .agg #[.string j.job, .string j.node, .int .i64 j.til]] w fun r w' => r = .returned (.agg #[.string (leaseS j m).1.job, .string (leaseS j m).1.node, .int .i64 (leaseS j m).1.til]) ∧ CodeAt b v (leaseS j m).2 w' ∧ Keep b w w' := by
  obtain ⟨n0, n1, n2⟩ := hok
  have s0 := rowSt_new (t := 27) #[.string j.job, .string j.node, .int .i64 j.til] #[.string ⟨#[]⟩, .string ⟨#[]⟩, .int .i64 0] h hE (by decide)
  have l0 : m.gs.length ≤ 1000000000 + 0 ∧ m.rest.size ≤ 1152921504606846976 := ⟨by omega, hs⟩
  have l1 := lim_txt n0 m
  obtain ⟨r1, e1⟩ : ∃ r, txtS j.job m = r := ⟨_, rfl⟩
  rw [e1] at l1
  replace l1 : r1.2.gs.length ≤ 1000000000 + 17 ∧ r1.2.rest.size ≤ 1152921504606846976 := ⟨by omega, by omega⟩
  have l2 := lim_txt n1 (r1.2)
  obtain ⟨r2, e2⟩ : ∃ r, txtS j.node r1.2 = r := ⟨_, rfl⟩
  rw [e2] at l2
  replace l2 : r2.2.gs.length ≤ 1000000000 + 34 ∧ r2.2.rest.size ≤ 1152921504606846976 := ⟨by omega, by omega⟩
  have l3 := lim_numb n2.2 (r2.2)
  obtain ⟨r3, e3⟩ : ∃ r, numbS j.til r2.2 = r := ⟨_, rfl⟩
  rw [e3] at l3
  replace l3 : r3.2.gs.length ≤ 1000000000 + 44 ∧ r3.2.rest.size ≤ 1152921504606846976 := ⟨by omega, by omega⟩
  have eS : leaseS j m = (⟨r1.1, r2.1, r3.1⟩, r3.2) := by simp only [leaseS, bindS, pureS, e1, e2, e3]
  rw [eS]
  clear eS
  have hb0 := s0.2.2.2.2.2.1
  have H0 := codeText_is j.job (fun _ => n0) l0.2 (by omega) _ s0.1 (env_tabs s0.2.2.2.2.1)
  rw [e1] at H0
  have H0 := Lib.hid H0
  have S0 := Lib.hid s0
  have c0 := objAt_cell s0.2.1 0 rfl
  clear s0 h hE
  go_enter Try.func128, Try.ntmps128
  go_wp2_with fail
  refine H0.out.mono ?_
  rintro r w1 ⟨rfl, h1, k1⟩
  have s1 := rowSt_call S0.out h1 k1
  have s1' := rowSt_store s1 0 (.string r1.1)
  have H1 := codeText_is j.node (fun _ => n1) l1.2 (by omega) _ s1'.1 (env_tabs s1'.2.2.2.2.1)
  rw [e2] at H1
  have H1 := Lib.hid H1
  clear c0
  have a1_0 := objAt_cell s1.2.1 0 rfl
  have a1_1 := objAt_cell s1.2.1 1 rfl
  have a1_2 := objAt_cell s1.2.1 2 rfl
  have f1 := objAt_free s1.2.1 0
  have z1 := objAt_lt s1.2.1
  have S1 := Lib.hid s1'
  clear h1 k1 s1 s1' H0 S0
  go_wp2_with fail
  refine H1.out.mono ?_
  rintro r w2 ⟨rfl, h2, k2⟩
  have s2 := rowSt_call S1.out h2 k2
  have s2' := rowSt_store s2 1 (.string r2.1)
  have H2 := number_in j.til n2 l2.2 (by omega) _ s2'.1
  rw [e3] at H2
  have H2 := Lib.hid H2
  clear a1_0 a1_1 a1_2 f1 z1
  have a2_0 := objAt_cell s2.2.1 0 rfl
  have a2_1 := objAt_cell s2.2.1 1 rfl
  have a2_2 := objAt_cell s2.2.1 2 rfl
  have f2 := objAt_free s2.2.1 1
  have z2 := objAt_lt s2.2.1
  have S2 := Lib.hid s2'
  clear h2 k2 s2 s2' H1 S1
  go_wp2_with fail
  refine H2.out.mono ?_
  rintro r w3 ⟨rfl, h3, k3⟩
  have s3 := rowSt_call S2.out h3 k3
  have s3' := rowSt_store s3 2 (.int .i64 r3.1)
  clear a2_0 a2_1 a2_2 f2 z2
  have a3_0 := objAt_cell s3.2.1 0 rfl
  have a3_1 := objAt_cell s3.2.1 1 rfl
  have a3_2 := objAt_cell s3.2.1 2 rfl
  have f3 := objAt_free s3.2.1 2
  have z3 := objAt_lt s3.2.1
  have p0 := objAt_cell s3.2.2.1 0 rfl
  have y_0 := objAt_free s3.2.2.1 0
  have p1 := objAt_cell s3.2.2.1 1 rfl
  have y_1 := objAt_free s3.2.2.1 1
  have p2 := objAt_cell s3.2.2.1 2 rfl
  have y_2 := objAt_free s3.2.2.1 2
  have zz := objAt_lt s3.2.2.1
  have sF := rowSt_back (rowSt_back (rowSt_back (s3') 0 (.string r1.1)) 1 (.string r2.1)) 2 (.int .i64 r3.1)
  have SF := Lib.hid sF
  have t0 := objAt_cell sF.2.2.1 0 rfl
  have t1 := objAt_cell sF.2.2.1 1 rfl
  have t2 := objAt_cell sF.2.2.1 2 rfl
  have T := Lib.hid (And.intro t0 (And.intro t1 (t2)))
  clear h3 k3 s3 s3' sF H2 S2 t0 t1 t2
  go_wp2
  obtain ⟨t0, t1, t2⟩ := T.out
  exact bodyPost_ret (v := .agg #[.string r1.1, .string r2.1, .int .i64 r3.1]) (by simp [results, Try.results128, go_sem, t0, t1, t2]) rfl ⟨rfl, SF.out.1, SF.out.2.2.2.1⟩
set_option maxRecDepth 100000 in
set_option maxHeartbeats 2000000 in
theorem codeNode_1 [Inhabited UV] {b : Nat} {v : Int} {m : M} (j : NodeD) (hok : okNode V8 v j) (hv : v < 2) (hs : m.rest.size ≤ 1152921504606846976) (hg : m.gs.length ≤ 1000000000) (w : World) (h : CodeAt b v m w) (hE : Env b w) :
    Calls Try.prog 120 #[.pointer (some ⟨b, 0, none⟩), .agg #[.string j.name, .int .i64 j.room, .string j.zone]] w fun r w' => r = .returned (.agg #[.string (nodeS v j m).1.name, .int .i64 (nodeS v j m).1.room, .string (nodeS v j m).1.zone]) ∧ CodeAt b v (nodeS v j m).2 w' ∧ Keep b w w' := by
  obtain ⟨n0, n1, n2⟩ := hok
  have s0 := rowSt_new (t := 25) #[.string j.name, .int .i64 j.room, .string j.zone] #[.string ⟨#[]⟩, .int .i64 0, .string ⟨#[]⟩] h hE (by decide)
  have l0 : m.gs.length ≤ 1000000000 + 0 ∧ m.rest.size ≤ 1152921504606846976 := ⟨by omega, hs⟩
  have l1 := lim_txt n0 m
  obtain ⟨r1, e1⟩ : ∃ r, txtS j.name m = r := ⟨_, rfl⟩
  rw [e1] at l1
  replace l1 : r1.2.gs.length ≤ 1000000000 + 17 ∧ r1.2.rest.size ≤ 1152921504606846976 := ⟨by omega, by omega⟩
  have l2 := lim_numb n1.2 (r1.2)
  obtain ⟨r2, e2⟩ : ∃ r, numbS j.room r1.2 = r := ⟨_, rfl⟩
  rw [e2] at l2
  replace l2 : r2.2.gs.length ≤ 1000000000 + 27 ∧ r2.2.rest.size ≤ 1152921504606846976 := ⟨by omega, by omega⟩
  have d1 : decide ((1 : Int) < v) = false := by simp; omega
  have eS : nodeS v j m = (⟨r1.1, r2.1, j.zone⟩, r2.2) := by simp only [nodeS, bindS, pureS, e1, e2, d1, Bool.false_eq_true, if_false]
  rw [eS]
  clear eS d1
  have hb0 := s0.2.2.2.2.2.1
  have hne : ¬ b = w.heap.size := by omega
  have hne' : ¬ w.heap.size = b := by omega
  have H0 := codeText_is j.name (fun _ => n0) l0.2 (by omega) _ s0.1 (env_tabs s0.2.2.2.2.1)
  rw [e1] at H0
  have H0 := Lib.hid H0
  have S0 := Lib.hid s0
  have c0 := objAt_cell s0.2.1 0 rfl
  clear s0 h hE
  go_enter Try.func120, Try.ntmps120
  go_wp2_with fail
  refine H0.out.mono ?_
  rintro r w1 ⟨rfl, h1, k1⟩
  have s1 := rowSt_call S0.out h1 k1
  have s1' := rowSt_store s1 0 (.string r1.1)
  have H1 := number_in j.room n1 l1.2 (by omega) _ s1'.1
  rw [e2] at H1
  have H1 := Lib.hid H1
  clear c0
  have a1_0 := objAt_cell s1.2.1 0 rfl
  have a1_1 := objAt_cell s1.2.1 1 rfl
  have a1_2 := objAt_cell s1.2.1 2 rfl
  have f1 := objAt_free s1.2.1 0
  have z1 := objAt_lt s1.2.1
  have v1 := (code_cells h1).1
  have y1 := code_lt h1
  have S1 := Lib.hid s1'
  clear h1 k1 s1 s1' H0 S0
  go_wp2_with fail
  refine H1.out.mono ?_
  rintro r w2 ⟨rfl, h2, k2⟩
  have s2 := rowSt_call S1.out h2 k2
  have s2' := rowSt_store s2 1 (.int .i64 r2.1)
  clear a1_0 a1_1 a1_2 f1 z1 v1 y1
  have a2_0 := objAt_cell s2.2.1 0 rfl
  have a2_1 := objAt_cell s2.2.1 1 rfl
  have a2_2 := objAt_cell s2.2.1 2 rfl
  have f2 := objAt_free s2.2.1 1
  have z2 := objAt_lt s2.2.1
  have v2 := (code_cells h2).1
  have y2 := code_lt h2
  have p0 := objAt_cell s2.2.2.1 0 rfl
  have y_0 := objAt_free s2.2.2.1 0
  have p1 := objAt_cell s2.2.2.1 1 rfl
  have y_1 := objAt_free s2.2.2.1 1
  have p2 := objAt_cell s2.2.2.1 2 rfl
  have y_2 := objAt_free s2.2.2.1 2
  have zz := objAt_lt s2.2.2.1
  have sF := rowSt_back (rowSt_back (rowSt_back (s2') 0 (.string r1.1)) 1 (.int .i64 r2.1)) 2 (.string j.zone)
  have SF := Lib.hid sF
  have t0 := objAt_cell sF.2.2.1 0 rfl
  have t1 := objAt_cell sF.2.2.1 1 rfl
  have t2 := objAt_cell sF.2.2.1 2 rfl
  have T := Lib.hid (And.intro t0 (And.intro t1 (t2)))
  clear h2 k2 s2 s2' sF H1 S1 t0 t1 t2
  go_wp2
  obtain ⟨t0, t1, t2⟩ := T.out
  exact bodyPost_ret (v := .agg #[.string r1.1, .int .i64 r2.1, .string j.zone]) (by simp [results, Try.results120, go_sem, t0, t1, t2]) rfl ⟨rfl, SF.out.1, SF.out.2.2.2.1⟩
set_option maxRecDepth 100000 in
set_option maxHeartbeats 2000000 in
theorem codeNode_2 [Inhabited UV] {b : Nat} {v : Int} {m : M} (j : NodeD) (hok : okNode V8 v j) (hv : 2 ≤ v) (hs : m.rest.size ≤ 1152921504606846976) (hg : m.gs.length ≤ 1000000000) (w : World) (h : CodeAt b v m w) (hE : Env b w) :
    Calls Try.prog 120 #[.pointer (some ⟨b, 0, none⟩), .agg #[.string j.name, .int .i64 j.room, .string j.zone]] w fun r w' => r = .returned (.agg #[.string (nodeS v j m).1.name, .int .i64 (nodeS v j m).1.room, .string (nodeS v j m).1.zone]) ∧ CodeAt b v (nodeS v j m).2 w' ∧ Keep b w w' := by
  obtain ⟨n0, n1, n2⟩ := hok
  rw [if_pos (by simp; omega)] at n2
  have s0 := rowSt_new (t := 25) #[.string j.name, .int .i64 j.room, .string j.zone] #[.string ⟨#[]⟩, .int .i64 0, .string ⟨#[]⟩] h hE (by decide)
  have l0 : m.gs.length ≤ 1000000000 + 0 ∧ m.rest.size ≤ 1152921504606846976 := ⟨by omega, hs⟩
  have l1 := lim_txt n0 m
  obtain ⟨r1, e1⟩ : ∃ r, txtS j.name m = r := ⟨_, rfl⟩
  rw [e1] at l1
  replace l1 : r1.2.gs.length ≤ 1000000000 + 17 ∧ r1.2.rest.size ≤ 1152921504606846976 := ⟨by omega, by omega⟩
  have l2 := lim_numb n1.2 (r1.2)
  obtain ⟨r2, e2⟩ : ∃ r, numbS j.room r1.2 = r := ⟨_, rfl⟩
  rw [e2] at l2
  replace l2 : r2.2.gs.length ≤ 1000000000 + 27 ∧ r2.2.rest.size ≤ 1152921504606846976 := ⟨by omega, by omega⟩
  have l3 := lim_txt n2 (r2.2)
  obtain ⟨r3, e3⟩ : ∃ r, txtS j.zone r2.2 = r := ⟨_, rfl⟩
  rw [e3] at l3
  replace l3 : r3.2.gs.length ≤ 1000000000 + 44 ∧ r3.2.rest.size ≤ 1152921504606846976 := ⟨by omega, by omega⟩
  have d1 : decide ((1 : Int) < v) = true := by simp; omega
  have eS : nodeS v j m = (⟨r1.1, r2.1, r3.1⟩, r3.2) := by simp only [nodeS, bindS, pureS, e1, e2, e3, d1, if_true]
  rw [eS]
  clear eS d1
  have hb0 := s0.2.2.2.2.2.1
  have hne : ¬ b = w.heap.size := by omega
  have hne' : ¬ w.heap.size = b := by omega
  have H0 := codeText_is j.name (fun _ => n0) l0.2 (by omega) _ s0.1 (env_tabs s0.2.2.2.2.1)
  rw [e1] at H0
  have H0 := Lib.hid H0
  have S0 := Lib.hid s0
  have c0 := objAt_cell s0.2.1 0 rfl
  clear s0 h hE
  go_enter Try.func120, Try.ntmps120
  go_wp2_with fail
  refine H0.out.mono ?_
  rintro r w1 ⟨rfl, h1, k1⟩
  have s1 := rowSt_call S0.out h1 k1
  have s1' := rowSt_store s1 0 (.string r1.1)
  have H1 := number_in j.room n1 l1.2 (by omega) _ s1'.1
  rw [e2] at H1
  have H1 := Lib.hid H1
  clear c0
  have a1_0 := objAt_cell s1.2.1 0 rfl
  have a1_1 := objAt_cell s1.2.1 1 rfl
  have a1_2 := objAt_cell s1.2.1 2 rfl
  have f1 := objAt_free s1.2.1 0
  have z1 := objAt_lt s1.2.1
  have v1 := (code_cells h1).1
  have y1 := code_lt h1
  have S1 := Lib.hid s1'
  clear h1 k1 s1 s1' H0 S0
  go_wp2_with fail
  refine H1.out.mono ?_
  rintro r w2 ⟨rfl, h2, k2⟩
  have s2 := rowSt_call S1.out h2 k2
  have s2' := rowSt_store s2 1 (.int .i64 r2.1)
  have H2 := codeText_is j.zone (fun _ => n2) l2.2 (by omega) _ s2'.1 (env_tabs s2'.2.2.2.2.1)
  rw [e3] at H2
  have H2 := Lib.hid H2
  clear a1_0 a1_1 a1_2 f1 z1 v1 y1
  have a2_0 := objAt_cell s2.2.1 0 rfl
  have a2_1 := objAt_cell s2.2.1 1 rfl
  have a2_2 := objAt_cell s2.2.1 2 rfl
  have f2 := objAt_free s2.2.1 1
  have z2 := objAt_lt s2.2.1
  have v2 := (code_cells h2).1
  have y2 := code_lt h2
  have S2 := Lib.hid s2'
  clear h2 k2 s2 s2' H1 S1
  go_wp2_with fail
  refine H2.out.mono ?_
  rintro r w3 ⟨rfl, h3, k3⟩
  have s3 := rowSt_call S2.out h3 k3
  have s3' := rowSt_store s3 2 (.string r3.1)
  clear a2_0 a2_1 a2_2 f2 z2 v2 y2
  have a3_0 := objAt_cell s3.2.1 0 rfl
  have a3_1 := objAt_cell s3.2.1 1 rfl
  have a3_2 := objAt_cell s3.2.1 2 rfl
  have f3 := objAt_free s3.2.1 2
  have z3 := objAt_lt s3.2.1
  have v3 := (code_cells h3).1
  have y3 := code_lt h3
  have p0 := objAt_cell s3.2.2.1 0 rfl
  have y_0 := objAt_free s3.2.2.1 0
  have p1 := objAt_cell s3.2.2.1 1 rfl
  have y_1 := objAt_free s3.2.2.1 1
  have p2 := objAt_cell s3.2.2.1 2 rfl
  have y_2 := objAt_free s3.2.2.1 2
  have zz := objAt_lt s3.2.2.1
  have sF := rowSt_back (rowSt_back (rowSt_back (s3') 0 (.string r1.1)) 1 (.int .i64 r2.1)) 2 (.string r3.1)
  have SF := Lib.hid sF
  have t0 := objAt_cell sF.2.2.1 0 rfl
  have t1 := objAt_cell sF.2.2.1 1 rfl
  have t2 := objAt_cell sF.2.2.1 2 rfl
  have T := Lib.hid (And.intro t0 (And.intro t1 (t2)))
  clear h3 k3 s3 s3' sF H2 S2 t0 t1 t2
  go_wp2
  obtain ⟨t0, t1, t2⟩ := T.out
  exact bodyPost_ret (v := .agg #[.string r1.1, .int .i64 r2.1, .string r3.1]) (by simp [results, Try.results120, go_sem, t0, t1, t2]) rfl ⟨rfl, SF.out.1, SF.out.2.2.2.1⟩
set_option maxRecDepth 100000 in
set_option maxHeartbeats 2000000 in
theorem codeJob_1 [Inhabited UV] {b : Nat} {v : Int} {m : M} (j : JobD) (hok : okJob V8 v j) (hv : v < 2) (hs : m.rest.size ≤ 1152921504606846976) (hg : m.gs.length ≤ 1000000000) (w : World) (h : CodeAt b v m w) (hE : Env b w) :
    Calls Try.prog 90 #[.pointer (some ⟨b, 0, none⟩), .agg #[.string j.name, .int .i64 j.prio, .int .i64 j.need, .int .i64 j.tries, .string j.tag]] w fun r w' => r = .returned (.agg #[.string (jobS v j m).1.name, .int .i64 (jobS v j m).1.prio, .int .i64 (jobS v j m).1.need, .int .i64 (jobS v j m).1.tries, .string (jobS v j m).1.tag]) ∧ CodeAt b v (jobS v j m).2 w' ∧ Keep b w w' := by
  obtain ⟨n0, n1, n2, n3, n4⟩ := hok
  have s0 := rowSt_new (t := 23) #[.string j.name, .int .i64 j.prio, .int .i64 j.need, .int .i64 j.tries, .string j.tag] #[.string ⟨#[]⟩, .int .i64 0, .int .i64 0, .int .i64 0, .string ⟨#[]⟩] h hE (by decide)
  have l0 : m.gs.length ≤ 1000000000 + 0 ∧ m.rest.size ≤ 1152921504606846976 := ⟨by omega, hs⟩
  have l1 := lim_txt n0 m
  obtain ⟨r1, e1⟩ : ∃ r, txtS j.name m = r := ⟨_, rfl⟩
  rw [e1] at l1
  replace l1 : r1.2.gs.length ≤ 1000000000 + 17 ∧ r1.2.rest.size ≤ 1152921504606846976 := ⟨by omega, by omega⟩
  have l2 := lim_sgn n1 (r1.2)
  obtain ⟨r2, e2⟩ : ∃ r, sgnS j.prio r1.2 = r := ⟨_, rfl⟩
  rw [e2] at l2
  replace l2 : r2.2.gs.length ≤ 1000000000 + 27 ∧ r2.2.rest.size ≤ 1152921504606846976 := ⟨by omega, by omega⟩
  have l3 := lim_numb n2.2 (r2.2)
  obtain ⟨r3, e3⟩ : ∃ r, numbS j.need r2.2 = r := ⟨_, rfl⟩
  rw [e3] at l3
  replace l3 : r3.2.gs.length ≤ 1000000000 + 37 ∧ r3.2.rest.size ≤ 1152921504606846976 := ⟨by omega, by omega⟩
  have d1 : decide ((1 : Int) < v) = false := by simp; omega
  have d2 : decide ((2 : Int) < v) = false := by simp; omega
  have eS : jobS v j m = (⟨r1.1, r2.1, r3.1, j.tries, j.tag⟩, r3.2) := by simp only [jobS, bindS, pureS, e1, e2, e3, d1, d2, Bool.false_eq_true, if_false]
  rw [eS]
  clear eS d1 d2
  have hb0 := s0.2.2.2.2.2.1
  have hne : ¬ b = w.heap.size := by omega
  have hne' : ¬ w.heap.size = b := by omega
  have H0 := codeText_is j.name (fun _ => n0) l0.2 (by omega) _ s0.1 (env_tabs s0.2.2.2.2.1)
  rw [e1] at H0
  have H0 := Lib.hid H0
  have S0 := Lib.hid s0
  have c0 := objAt_cell s0.2.1 0 rfl
  clear s0 h hE
  go_enter Try.func90, Try.ntmps90
  go_wp2_with fail
  refine H0.out.mono ?_
  rintro r w1 ⟨rfl, h1, k1⟩
  have s1 := rowSt_call S0.out h1 k1
  have s1' := rowSt_store s1 0 (.string r1.1)
  have H1 := signed_is j.prio n1 l1.2 (by omega) _ s1'.1
  rw [e2] at H1
  have H1 := Lib.hid H1
  clear c0
  have a1_0 := objAt_cell s1.2.1 0 rfl
  have a1_1 := objAt_cell s1.2.1 1 rfl
  have a1_2 := objAt_cell s1.2.1 2 rfl
  have a1_3 := objAt_cell s1.2.1 3 rfl
  have a1_4 := objAt_cell s1.2.1 4 rfl
  have f1 := objAt_free s1.2.1 0
  have z1 := objAt_lt s1.2.1
  have v1 := (code_cells h1).1
  have y1 := code_lt h1
  have S1 := Lib.hid s1'
  clear h1 k1 s1 s1' H0 S0
  go_wp2_with fail
  refine H1.out.mono ?_
  rintro r w2 ⟨rfl, h2, k2⟩
  have s2 := rowSt_call S1.out h2 k2
  have s2' := rowSt_store s2 1 (.int .i64 r2.1)
  have H2 := number_in j.need n2 l2.2 (by omega) _ s2'.1
  rw [e3] at H2
  have H2 := Lib.hid H2
  clear a1_0 a1_1 a1_2 a1_3 a1_4 f1 z1 v1 y1
  have a2_0 := objAt_cell s2.2.1 0 rfl
  have a2_1 := objAt_cell s2.2.1 1 rfl
  have a2_2 := objAt_cell s2.2.1 2 rfl
  have a2_3 := objAt_cell s2.2.1 3 rfl
  have a2_4 := objAt_cell s2.2.1 4 rfl
  have f2 := objAt_free s2.2.1 1
  have z2 := objAt_lt s2.2.1
  have v2 := (code_cells h2).1
  have y2 := code_lt h2
  have S2 := Lib.hid s2'
  clear h2 k2 s2 s2' H1 S1
  go_wp2_with fail
  refine H2.out.mono ?_
  rintro r w3 ⟨rfl, h3, k3⟩
  have s3 := rowSt_call S2.out h3 k3
  have s3' := rowSt_store s3 2 (.int .i64 r3.1)
  clear a2_0 a2_1 a2_2 a2_3 a2_4 f2 z2 v2 y2
  have a3_0 := objAt_cell s3.2.1 0 rfl
  have a3_1 := objAt_cell s3.2.1 1 rfl
  have a3_2 := objAt_cell s3.2.1 2 rfl
  have a3_3 := objAt_cell s3.2.1 3 rfl
  have a3_4 := objAt_cell s3.2.1 4 rfl
  have f3 := objAt_free s3.2.1 2
  have z3 := objAt_lt s3.2.1
  have v3 := (code_cells h3).1
  have y3 := code_lt h3
  have p0 := objAt_cell s3.2.2.1 0 rfl
  have y_0 := objAt_free s3.2.2.1 0
  have p1 := objAt_cell s3.2.2.1 1 rfl
  have y_1 := objAt_free s3.2.2.1 1
  have p2 := objAt_cell s3.2.2.1 2 rfl
  have y_2 := objAt_free s3.2.2.1 2
  have p3 := objAt_cell s3.2.2.1 3 rfl
  have y_3 := objAt_free s3.2.2.1 3
  have p4 := objAt_cell s3.2.2.1 4 rfl
  have y_4 := objAt_free s3.2.2.1 4
  have zz := objAt_lt s3.2.2.1
  have sF := rowSt_back (rowSt_back (rowSt_back (rowSt_back (rowSt_back (s3') 0 (.string r1.1)) 1 (.int .i64 r2.1)) 2 (.int .i64 r3.1)) 3 (.int .i64 j.tries)) 4 (.string j.tag)
  have SF := Lib.hid sF
  have t0 := objAt_cell sF.2.2.1 0 rfl
  have t1 := objAt_cell sF.2.2.1 1 rfl
  have t2 := objAt_cell sF.2.2.1 2 rfl
  have t3 := objAt_cell sF.2.2.1 3 rfl
  have t4 := objAt_cell sF.2.2.1 4 rfl
  have T := Lib.hid (And.intro t0 (And.intro t1 (And.intro t2 (And.intro t3 (t4)))))
  clear h3 k3 s3 s3' sF H2 S2 t0 t1 t2 t3 t4
  go_wp2
  obtain ⟨t0, t1, t2, t3, t4⟩ := T.out
  exact bodyPost_ret (v := .agg #[.string r1.1, .int .i64 r2.1, .int .i64 r3.1, .int .i64 j.tries, .string j.tag]) (by simp [results, Try.results90, go_sem, t0, t1, t2, t3, t4]) rfl ⟨rfl, SF.out.1, SF.out.2.2.2.1⟩
set_option maxRecDepth 100000 in
set_option maxHeartbeats 2000000 in
theorem codeJob_2 [Inhabited UV] {b : Nat} {v : Int} {m : M} (j : JobD) (hok : okJob V8 v j) (hv : 2 ≤ v) (hv3 : v < 3) (hs : m.rest.size ≤ 1152921504606846976) (hg : m.gs.length ≤ 1000000000) (w : World) (h : CodeAt b v m w) (hE : Env b w) :
    Calls Try.prog 90 #[.pointer (some ⟨b, 0, none⟩), .agg #[.string j.name, .int .i64 j.prio, .int .i64 j.need, .int .i64 j.tries, .string j.tag]] w fun r w' => r = .returned (.agg #[.string (jobS v j m).1.name, .int .i64 (jobS v j m).1.prio, .int .i64 (jobS v j m).1.need, .int .i64 (jobS v j m).1.tries, .string (jobS v j m).1.tag]) ∧ CodeAt b v (jobS v j m).2 w' ∧ Keep b w w' := by
  obtain ⟨n0, n1, n2, n3, n4⟩ := hok
  rw [if_pos (by simp; omega)] at n3
  have s0 := rowSt_new (t := 23) #[.string j.name, .int .i64 j.prio, .int .i64 j.need, .int .i64 j.tries, .string j.tag] #[.string ⟨#[]⟩, .int .i64 0, .int .i64 0, .int .i64 0, .string ⟨#[]⟩] h hE (by decide)
  have l0 : m.gs.length ≤ 1000000000 + 0 ∧ m.rest.size ≤ 1152921504606846976 := ⟨by omega, hs⟩
  have l1 := lim_txt n0 m
  obtain ⟨r1, e1⟩ : ∃ r, txtS j.name m = r := ⟨_, rfl⟩
  rw [e1] at l1
  replace l1 : r1.2.gs.length ≤ 1000000000 + 17 ∧ r1.2.rest.size ≤ 1152921504606846976 := ⟨by omega, by omega⟩
  have l2 := lim_sgn n1 (r1.2)
  obtain ⟨r2, e2⟩ : ∃ r, sgnS j.prio r1.2 = r := ⟨_, rfl⟩
  rw [e2] at l2
  replace l2 : r2.2.gs.length ≤ 1000000000 + 27 ∧ r2.2.rest.size ≤ 1152921504606846976 := ⟨by omega, by omega⟩
  have l3 := lim_numb n2.2 (r2.2)
  obtain ⟨r3, e3⟩ : ∃ r, numbS j.need r2.2 = r := ⟨_, rfl⟩
  rw [e3] at l3
  replace l3 : r3.2.gs.length ≤ 1000000000 + 37 ∧ r3.2.rest.size ≤ 1152921504606846976 := ⟨by omega, by omega⟩
  have l4 := lim_numb n3.2 (r3.2)
  obtain ⟨r4, e4⟩ : ∃ r, numbS j.tries r3.2 = r := ⟨_, rfl⟩
  rw [e4] at l4
  replace l4 : r4.2.gs.length ≤ 1000000000 + 47 ∧ r4.2.rest.size ≤ 1152921504606846976 := ⟨by omega, by omega⟩
  have d1 : decide ((1 : Int) < v) = true := by simp; omega
  have d2 : decide ((2 : Int) < v) = false := by simp; omega
  have eS : jobS v j m = (⟨r1.1, r2.1, r3.1, r4.1, j.tag⟩, r4.2) := by simp only [jobS, bindS, pureS, e1, e2, e3, e4, d1, d2, if_true, Bool.false_eq_true, if_false]
  rw [eS]
  clear eS d1 d2
  have hb0 := s0.2.2.2.2.2.1
  have hne : ¬ b = w.heap.size := by omega
  have hne' : ¬ w.heap.size = b := by omega
  have H0 := codeText_is j.name (fun _ => n0) l0.2 (by omega) _ s0.1 (env_tabs s0.2.2.2.2.1)
  rw [e1] at H0
  have H0 := Lib.hid H0
  have S0 := Lib.hid s0
  have c0 := objAt_cell s0.2.1 0 rfl
  clear s0 h hE
  go_enter Try.func90, Try.ntmps90
  go_wp2_with fail
  refine H0.out.mono ?_
  rintro r w1 ⟨rfl, h1, k1⟩
  have s1 := rowSt_call S0.out h1 k1
  have s1' := rowSt_store s1 0 (.string r1.1)
  have H1 := signed_is j.prio n1 l1.2 (by omega) _ s1'.1
  rw [e2] at H1
  have H1 := Lib.hid H1
  clear c0
  have a1_0 := objAt_cell s1.2.1 0 rfl
  have a1_1 := objAt_cell s1.2.1 1 rfl
  have a1_2 := objAt_cell s1.2.1 2 rfl
  have a1_3 := objAt_cell s1.2.1 3 rfl
  have a1_4 := objAt_cell s1.2.1 4 rfl
  have f1 := objAt_free s1.2.1 0
  have z1 := objAt_lt s1.2.1
  have v1 := (code_cells h1).1
  have y1 := code_lt h1
  have S1 := Lib.hid s1'
  clear h1 k1 s1 s1' H0 S0
  go_wp2_with fail
  refine H1.out.mono ?_
  rintro r w2 ⟨rfl, h2, k2⟩
  have s2 := rowSt_call S1.out h2 k2
  have s2' := rowSt_store s2 1 (.int .i64 r2.1)
  have H2 := number_in j.need n2 l2.2 (by omega) _ s2'.1
  rw [e3] at H2
  have H2 := Lib.hid H2
  clear a1_0 a1_1 a1_2 a1_3 a1_4 f1 z1 v1 y1
  have a2_0 := objAt_cell s2.2.1 0 rfl
  have a2_1 := objAt_cell s2.2.1 1 rfl
  have a2_2 := objAt_cell s2.2.1 2 rfl
  have a2_3 := objAt_cell s2.2.1 3 rfl
  have a2_4 := objAt_cell s2.2.1 4 rfl
  have f2 := objAt_free s2.2.1 1
  have z2 := objAt_lt s2.2.1
  have v2 := (code_cells h2).1
  have y2 := code_lt h2
  have S2 := Lib.hid s2'
  clear h2 k2 s2 s2' H1 S1
  go_wp2_with fail
  refine H2.out.mono ?_
  rintro r w3 ⟨rfl, h3, k3⟩
  have s3 := rowSt_call S2.out h3 k3
  have s3' := rowSt_store s3 2 (.int .i64 r3.1)
  have H3 := number_in j.tries n3 l3.2 (by omega) _ s3'.1
  rw [e4] at H3
  have H3 := Lib.hid H3
  clear a2_0 a2_1 a2_2 a2_3 a2_4 f2 z2 v2 y2
  have a3_0 := objAt_cell s3.2.1 0 rfl
  have a3_1 := objAt_cell s3.2.1 1 rfl
  have a3_2 := objAt_cell s3.2.1 2 rfl
  have a3_3 := objAt_cell s3.2.1 3 rfl
  have a3_4 := objAt_cell s3.2.1 4 rfl
  have f3 := objAt_free s3.2.1 2
  have z3 := objAt_lt s3.2.1
  have v3 := (code_cells h3).1
  have y3 := code_lt h3
  have S3 := Lib.hid s3'
  clear h3 k3 s3 s3' H2 S2
  go_wp2_with fail
  refine H3.out.mono ?_
  rintro r w4 ⟨rfl, h4, k4⟩
  have s4 := rowSt_call S3.out h4 k4
  have s4' := rowSt_store s4 3 (.int .i64 r4.1)
  clear a3_0 a3_1 a3_2 a3_3 a3_4 f3 z3 v3 y3
  have a4_0 := objAt_cell s4.2.1 0 rfl
  have a4_1 := objAt_cell s4.2.1 1 rfl
  have a4_2 := objAt_cell s4.2.1 2 rfl
  have a4_3 := objAt_cell s4.2.1 3 rfl
  have a4_4 := objAt_cell s4.2.1 4 rfl
  have f4 := objAt_free s4.2.1 3
  have z4 := objAt_lt s4.2.1
  have v4 := (code_cells h4).1
  have y4 := code_lt h4
  have p0 := objAt_cell s4.2.2.1 0 rfl
  have y_0 := objAt_free s4.2.2.1 0
  have p1 := objAt_cell s4.2.2.1 1 rfl
  have y_1 := objAt_free s4.2.2.1 1
  have p2 := objAt_cell s4.2.2.1 2 rfl
  have y_2 := objAt_free s4.2.2.1 2
  have p3 := objAt_cell s4.2.2.1 3 rfl
  have y_3 := objAt_free s4.2.2.1 3
  have p4 := objAt_cell s4.2.2.1 4 rfl
  have y_4 := objAt_free s4.2.2.1 4
  have zz := objAt_lt s4.2.2.1
  have sF := rowSt_back (rowSt_back (rowSt_back (rowSt_back (rowSt_back (s4') 0 (.string r1.1)) 1 (.int .i64 r2.1)) 2 (.int .i64 r3.1)) 3 (.int .i64 r4.1)) 4 (.string j.tag)
  have SF := Lib.hid sF
  have t0 := objAt_cell sF.2.2.1 0 rfl
  have t1 := objAt_cell sF.2.2.1 1 rfl
  have t2 := objAt_cell sF.2.2.1 2 rfl
  have t3 := objAt_cell sF.2.2.1 3 rfl
  have t4 := objAt_cell sF.2.2.1 4 rfl
  have T := Lib.hid (And.intro t0 (And.intro t1 (And.intro t2 (And.intro t3 (t4)))))
  clear h4 k4 s4 s4' sF H3 S3 t0 t1 t2 t3 t4
  go_wp2
  obtain ⟨t0, t1, t2, t3, t4⟩ := T.out
  exact bodyPost_ret (v := .agg #[.string r1.1, .int .i64 r2.1, .int .i64 r3.1, .int .i64 r4.1, .string j.tag]) (by simp [results, Try.results90, go_sem, t0, t1, t2, t3, t4]) rfl ⟨rfl, SF.out.1, SF.out.2.2.2.1⟩
set_option maxRecDepth 100000 in
set_option maxHeartbeats 2000000 in
theorem codeJob_3 [Inhabited UV] {b : Nat} {v : Int} {m : M} (j : JobD) (hok : okJob V8 v j) (hv : 3 ≤ v) (hs : m.rest.size ≤ 1152921504606846976) (hg : m.gs.length ≤ 1000000000) (w : World) (h : CodeAt b v m w) (hE : Env b w) :
    Calls Try.prog 90 #[.pointer (some ⟨b, 0, none⟩), .agg #[.string j.name, .int .i64 j.prio, .int .i64 j.need, .int .i64 j.tries, .string j.tag]] w fun r w' => r = .returned (.agg #[.string (jobS v j m).1.name, .int .i64 (jobS v j m).1.prio, .int .i64 (jobS v j m).1.need, .int .i64 (jobS v j m).1.tries, .string (jobS v j m).1.tag]) ∧ CodeAt b v (jobS v j m).2 w' ∧ Keep b w w' := by
  obtain ⟨n0, n1, n2, n3, n4⟩ := hok
  rw [if_pos (by simp; omega)] at n3
  rw [if_pos (by simp; omega)] at n4
  have s0 := rowSt_new (t := 23) #[.string j.name, .int .i64 j.prio, .int .i64 j.need, .int .i64 j.tries, .string j.tag] #[.string ⟨#[]⟩, .int .i64 0, .int .i64 0, .int .i64 0, .string ⟨#[]⟩] h hE (by decide)
  have l0 : m.gs.length ≤ 1000000000 + 0 ∧ m.rest.size ≤ 1152921504606846976 := ⟨by omega, hs⟩
  have l1 := lim_txt n0 m
  obtain ⟨r1, e1⟩ : ∃ r, txtS j.name m = r := ⟨_, rfl⟩
  rw [e1] at l1
  replace l1 : r1.2.gs.length ≤ 1000000000 + 17 ∧ r1.2.rest.size ≤ 1152921504606846976 := ⟨by omega, by omega⟩
  have l2 := lim_sgn n1 (r1.2)
  obtain ⟨r2, e2⟩ : ∃ r, sgnS j.prio r1.2 = r := ⟨_, rfl⟩
  rw [e2] at l2
  replace l2 : r2.2.gs.length ≤ 1000000000 + 27 ∧ r2.2.rest.size ≤ 1152921504606846976 := ⟨by omega, by omega⟩
  have l3 := lim_numb n2.2 (r2.2)
  obtain ⟨r3, e3⟩ : ∃ r, numbS j.need r2.2 = r := ⟨_, rfl⟩
  rw [e3] at l3
  replace l3 : r3.2.gs.length ≤ 1000000000 + 37 ∧ r3.2.rest.size ≤ 1152921504606846976 := ⟨by omega, by omega⟩
  have l4 := lim_numb n3.2 (r3.2)
  obtain ⟨r4, e4⟩ : ∃ r, numbS j.tries r3.2 = r := ⟨_, rfl⟩
  rw [e4] at l4
  replace l4 : r4.2.gs.length ≤ 1000000000 + 47 ∧ r4.2.rest.size ≤ 1152921504606846976 := ⟨by omega, by omega⟩
  have l5 := lim_txt n4 (r4.2)
  obtain ⟨r5, e5⟩ : ∃ r, txtS j.tag r4.2 = r := ⟨_, rfl⟩
  rw [e5] at l5
  replace l5 : r5.2.gs.length ≤ 1000000000 + 64 ∧ r5.2.rest.size ≤ 1152921504606846976 := ⟨by omega, by omega⟩
  have d1 : decide ((1 : Int) < v) = true := by simp; omega
  have d2 : decide ((2 : Int) < v) = true := by simp; omega
  have eS : jobS v j m = (⟨r1.1, r2.1, r3.1, r4.1, r5.1⟩, r5.2) := by simp only [jobS, bindS, pureS, e1, e2, e3, e4, e5, d1, d2, if_true]
  rw [eS]
  clear eS d1 d2
  have hb0 := s0.2.2.2.2.2.1
  have hne : ¬ b = w.heap.size := by omega
  have hne' : ¬ w.heap.size = b := by omega
  have H0 := codeText_is j.name (fun _ => n0) l0.2 (by omega) _ s0.1 (env_tabs s0.2.2.2.2.1)
  rw [e1] at H0
  have H0 := Lib.hid H0
  have S0 := Lib.hid s0
  have c0 := objAt_cell s0.2.1 0 rfl
  clear s0 h hE
  go_enter Try.func90, Try.ntmps90
  go_wp2_with fail
  refine H0.out.mono ?_
  rintro r w1 ⟨rfl, h1, k1⟩
  have s1 := rowSt_call S0.out h1 k1
  have s1' := rowSt_store s1 0 (.string r1.1)
  have H1 := signed_is j.prio n1 l1.2 (by omega) _ s1'.1
  rw [e2] at H1
  have H1 := Lib.hid H1
  clear c0
  have a1_0 := objAt_cell s1.2.1 0 rfl
  have a1_1 := objAt_cell s1.2.1 1 rfl
  have a1_2 := objAt_cell s1.2.1 2 rfl
  have a1_3 := objAt_cell s1.2.1 3 rfl
  have a1_4 := objAt_cell s1.2.1 4 rfl
  have f1 := objAt_free s1.2.1 0
  have z1 := objAt_lt s1.2.1
  have v1 := (code_cells h1).1
  have y1 := code_lt h1
  have S1 := Lib.hid s1'
  clear h1 k1 s1 s1' H0 S0
  go_wp2_with fail
  refine H1.out.mono ?_
  rintro r w2 ⟨rfl, h2, k2⟩
  have s2 := rowSt_call S1.out h2 k2
  have s2' := rowSt_store s2 1 (.int .i64 r2.1)
  have H2 := number_in j.need n2 l2.2 (by omega) _ s2'.1
  rw [e3] at H2
  have H2 := Lib.hid H2
  clear a1_0 a1_1 a1_2 a1_3 a1_4 f1 z1 v1 y1
  have a2_0 := objAt_cell s2.2.1 0 rfl
  have a2_1 := objAt_cell s2.2.1 1 rfl
  have a2_2 := objAt_cell s2.2.1 2 rfl
  have a2_3 := objAt_cell s2.2.1 3 rfl
  have a2_4 := objAt_cell s2.2.1 4 rfl
  have f2 := objAt_free s2.2.1 1
  have z2 := objAt_lt s2.2.1
  have v2 := (code_cells h2).1
  have y2 := code_lt h2
  have S2 := Lib.hid s2'
  clear h2 k2 s2 s2' H1 S1
  go_wp2_with fail
  refine H2.out.mono ?_
  rintro r w3 ⟨rfl, h3, k3⟩
  have s3 := rowSt_call S2.out h3 k3
  have s3' := rowSt_store s3 2 (.int .i64 r3.1)
  have H3 := number_in j.tries n3 l3.2 (by omega) _ s3'.1
  rw [e4] at H3
  have H3 := Lib.hid H3
  clear a2_0 a2_1 a2_2 a2_3 a2_4 f2 z2 v2 y2
  have a3_0 := objAt_cell s3.2.1 0 rfl
  have a3_1 := objAt_cell s3.2.1 1 rfl
  have a3_2 := objAt_cell s3.2.1 2 rfl
  have a3_3 := objAt_cell s3.2.1 3 rfl
  have a3_4 := objAt_cell s3.2.1 4 rfl
  have f3 := objAt_free s3.2.1 2
  have z3 := objAt_lt s3.2.1
  have v3 := (code_cells h3).1
  have y3 := code_lt h3
  have S3 := Lib.hid s3'
  clear h3 k3 s3 s3' H2 S2
  go_wp2_with fail
  refine H3.out.mono ?_
  rintro r w4 ⟨rfl, h4, k4⟩
  have s4 := rowSt_call S3.out h4 k4
  have s4' := rowSt_store s4 3 (.int .i64 r4.1)
  have H4 := codeText_is j.tag (fun _ => n4) l4.2 (by omega) _ s4'.1 (env_tabs s4'.2.2.2.2.1)
  rw [e5] at H4
  have H4 := Lib.hid H4
  clear a3_0 a3_1 a3_2 a3_3 a3_4 f3 z3 v3 y3
  have a4_0 := objAt_cell s4.2.1 0 rfl
  have a4_1 := objAt_cell s4.2.1 1 rfl
  have a4_2 := objAt_cell s4.2.1 2 rfl
  have a4_3 := objAt_cell s4.2.1 3 rfl
  have a4_4 := objAt_cell s4.2.1 4 rfl
  have f4 := objAt_free s4.2.1 3
  have z4 := objAt_lt s4.2.1
  have v4 := (code_cells h4).1
  have y4 := code_lt h4
  have S4 := Lib.hid s4'
  clear h4 k4 s4 s4' H3 S3
  go_wp2_with fail
  refine H4.out.mono ?_
  rintro r w5 ⟨rfl, h5, k5⟩
  have s5 := rowSt_call S4.out h5 k5
  have s5' := rowSt_store s5 4 (.string r5.1)
  clear a4_0 a4_1 a4_2 a4_3 a4_4 f4 z4 v4 y4
  have a5_0 := objAt_cell s5.2.1 0 rfl
  have a5_1 := objAt_cell s5.2.1 1 rfl
  have a5_2 := objAt_cell s5.2.1 2 rfl
  have a5_3 := objAt_cell s5.2.1 3 rfl
  have a5_4 := objAt_cell s5.2.1 4 rfl
  have f5 := objAt_free s5.2.1 4
  have z5 := objAt_lt s5.2.1
  have v5 := (code_cells h5).1
  have y5 := code_lt h5
  have p0 := objAt_cell s5.2.2.1 0 rfl
  have y_0 := objAt_free s5.2.2.1 0
  have p1 := objAt_cell s5.2.2.1 1 rfl
  have y_1 := objAt_free s5.2.2.1 1
  have p2 := objAt_cell s5.2.2.1 2 rfl
  have y_2 := objAt_free s5.2.2.1 2
  have p3 := objAt_cell s5.2.2.1 3 rfl
  have y_3 := objAt_free s5.2.2.1 3
  have p4 := objAt_cell s5.2.2.1 4 rfl
  have y_4 := objAt_free s5.2.2.1 4
  have zz := objAt_lt s5.2.2.1
  have sF := rowSt_back (rowSt_back (rowSt_back (rowSt_back (rowSt_back (s5') 0 (.string r1.1)) 1 (.int .i64 r2.1)) 2 (.int .i64 r3.1)) 3 (.int .i64 r4.1)) 4 (.string r5.1)
  have SF := Lib.hid sF
  have t0 := objAt_cell sF.2.2.1 0 rfl
  have t1 := objAt_cell sF.2.2.1 1 rfl
  have t2 := objAt_cell sF.2.2.1 2 rfl
  have t3 := objAt_cell sF.2.2.1 3 rfl
  have t4 := objAt_cell sF.2.2.1 4 rfl
  have T := Lib.hid (And.intro t0 (And.intro t1 (And.intro t2 (And.intro t3 (t4)))))
  clear h5 k5 s5 s5' sF H4 S4 t0 t1 t2 t3 t4
  go_wp2
  obtain ⟨t0, t1, t2, t3, t4⟩ := T.out
  exact bodyPost_ret (v := .agg #[.string r1.1, .int .i64 r2.1, .int .i64 r3.1, .int .i64 r4.1, .string r5.1]) (by simp [results, Try.results90, go_sem, t0, t1, t2, t3, t4]) rfl ⟨rfl, SF.out.1, SF.out.2.2.2.1⟩
theorem codeNode_is [Inhabited UV] {b : Nat} {v : Int} {m : M} (j : NodeD) (hok : okNode V8 v j) (hs : m.rest.size ≤ 1152921504606846976) (hg : m.gs.length ≤ 1000000000) (w : World) (h : CodeAt b v m w) (hE : Env b w) :
    Calls Try.prog 120 #[.pointer (some ⟨b, 0, none⟩), .agg #[.string j.name, .int .i64 j.room, .string j.zone]] w fun r w' => r = .returned (.agg #[.string (nodeS v j m).1.name, .int .i64 (nodeS v j m).1.room, .string (nodeS v j m).1.zone]) ∧ CodeAt b v (nodeS v j m).2 w' ∧ Keep b w w' := by
  by_cases hv : v < 2
  · exact codeNode_1 j hok hv hs hg w h hE
  · exact codeNode_2 j hok (by omega) hs hg w h hE
theorem codeJob_is [Inhabited UV] {b : Nat} {v : Int} {m : M} (j : JobD) (hok : okJob V8 v j) (hs : m.rest.size ≤ 1152921504606846976) (hg : m.gs.length ≤ 1000000000) (w : World) (h : CodeAt b v m w) (hE : Env b w) :
    Calls Try.prog 90 #[.pointer (some ⟨b, 0, none⟩), .agg #[.string j.name, .int .i64 j.prio, .int .i64 j.need, .int .i64 j.tries, .string j.tag]] w fun r w' => r = .returned (.agg #[.string (jobS v j m).1.name, .int .i64 (jobS v j m).1.prio, .int .i64 (jobS v j m).1.need, .int .i64 (jobS v j m).1.tries, .string (jobS v j m).1.tag]) ∧ CodeAt b v (jobS v j m).2 w' ∧ Keep b w w' := by
  by_cases hv : v < 2
  · exact codeJob_1 j hok hv hs hg w h hE
  · by_cases hv3 : v < 3
    · exact codeJob_2 j hok (by omega) hv3 hs hg w h hE
    · exact codeJob_3 j hok (by omega) hs hg w h hE
end Go.Proofs.Ytklpmhiaihabaaa

/- The coder of package wire: the rows of a table. -/
namespace Go.Proofs.Ytklpmhiaihabaaa
open Go.RowKit

theorem go_at {α : Type} {f : α → St α} {pad : List α} {m1 mi : M} {ys : List α} {i : Nat} (h : i < pad.length) (H : goS f pad m1 = (ys ++ (goS f (pad.drop i) mi).1, (goS f (pad.drop i) mi).2)) :
    goS f pad m1 = ((ys ++ [(f pad[i] mi).1]) ++ (goS f (pad.drop (i + 1)) (f pad[i] mi).2).1, (goS f (pad.drop (i + 1)) (f pad[i] mi).2).2) := by
  rw [List.drop_eq_getElem_cons h] at H
  rw [H]
  simp [goS, bindS, pureS]
theorem go_end {α : Type} {f : α → St α} {pad : List α} {m1 mi : M} {ys : List α} (H : goS f pad m1 = (ys ++ (goS f (pad.drop pad.length) mi).1, (goS f (pad.drop pad.length) mi).2)) : goS f pad m1 = (ys, mi) := by
  rw [List.drop_length] at H
  rw [H]
  simp [goS, pureS]
theorem padL_length {α : Type} (z : α) (l : List α) (n : Nat) : (padL z l n).length = n := by simp [padL]
theorem padL_in {α : Type} (z : α) (l : List α) (n i : Nat) (h : i < (padL z l n).length) (hi : i < l.length) : (padL z l n)[i] = l[i] := by simp [padL, hi]
theorem padL_out {α : Type} (z : α) (l : List α) (n i : Nat) (h : i < (padL z l n).length) (hi : ¬ i < l.length) : (padL z l n)[i] = z := by simp [padL, hi]
/-- The coder beside a block that was made. -/
def BoxSt [Inhabited UV] (b : Nat) (v : Int) (t : TypeId) (m : M) (c : Nat) (vs : Array Value) (w0 w : World) : Prop :=
  CodeAt b v m w ∧ ObjAt c vs t w ∧ Keep b w0 w ∧ Env b w ∧ b < w0.heap.size ∧ w0.heap.size ≤ c ∧ t ≠ 5
theorem boxSt_new [Inhabited UV] {b : Nat} {v : Int} {t : TypeId} {m : M} {w : World} (vs : Array Value) (h : CodeAt b v m w) (hE : Env b w) (ht : t ≠ 5) : BoxSt b v t m w.heap.size vs w (w.alloc (.cells vs t)) :=
  ⟨code_alloc h _, objAt_new w vs t, keep_alloc b w _, env_keep hE (keep_alloc b w _), code_lt h, Nat.le_refl _, ht⟩
theorem boxSt_store [Inhabited UV] {b c : Nat} {v : Int} {t : TypeId} {m : M} {vs : Array Value} {w0 w : World} (h : BoxSt b v t m c vs w0 w) (j : Nat) (u : Value) : BoxSt b v t m c (vs.setIfInBounds j u) w0 (w.setCell ⟨c, j, none⟩ u) := by
  obtain ⟨h1, h2, h4, h5, h6, h7, h8⟩ := h
  exact ⟨code_set h1 h2 (by omega) h8 j u, objAt_set h2 j u, keep_new h4 h7 j u, env_new h5 h6 h7 j u, h6, h7, h8⟩
end Go.Proofs.Ytklpmhiaihabaaa
