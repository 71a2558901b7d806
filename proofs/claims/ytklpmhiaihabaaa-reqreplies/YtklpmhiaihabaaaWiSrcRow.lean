/- The reference's reading of states: a job, a node, a lease. -/
import Derived.Test.YtklpmhiaihabaaaWiSrc
namespace Go.Proofs.Ytklpmhiaihabaaa
open Go.RowKit

theorem Codec.short {α : Type} {P : α → Prop} {enc : α → List UInt8} {dec : Dec α} (c : Codec P enc dec) {l m : List UInt8} {a : α} (h : dec l = .inr (a, m)) : m.length ≤ l.length := by
  rw [(c.sound _ _ _ h).2, List.length_append]; omega
theorem short_text {l m : List UInt8} {a : ByteArray} (h : textD V8 l = .inr (a, m)) (hl : l.length ≤ 140737488355328) : m.length ≤ 140737488355328 := Nat.le_trans ((textC V8).short h) hl
theorem short_num {most : Nat} (hm : most < 18446744073709551616) {l m : List UInt8} {a : Nat} (h : numD most l = .inr (a, m)) (hl : l.length ≤ 140737488355328) : m.length ≤ 140737488355328 := Nat.le_trans ((numC most hm).short h) hl
theorem short_int {l m : List UInt8} {a : Int} (h : intD l = .inr (a, m)) (hl : l.length ≤ 140737488355328) : m.length ≤ 140737488355328 := Nat.le_trans (intC.short h) hl
theorem zig_ok {l m : List UInt8} {n : Nat} (h : numD 4611686018427387904 l = .inr (n, m)) : zigD l = .inr (zag (n : Int), m) := by unfold zigD; rw [bindD_ok h]; rfl
theorem zig_err {l : List UInt8} {e : Nat} (h : numD 4611686018427387904 l = .inl e) : zigD l = .inl e := bindD_err h
/-- A row that is read: the source, and the row. -/
def RSt (b : Nat) (l : List UInt8) (J : Nat) (vs : Array Value) (t : TypeId) (w0 w : World) : Prop := SrcAt b l w ∧ ObjAt J vs t w ∧ w0.grownBy w (some b) ∧ b < w0.heap.size ∧ w0.heap.size ≤ J
theorem rst_new {b : Nat} {l : List UInt8} {t : TypeId} {w : World} (vs : Array Value) (h : SrcAt b l w) : RSt b l w.heap.size vs t w (w.alloc (.cells vs t)) :=
  ⟨objAt_next h (below_one _ _), objAt_new w vs t, grown_of_below (below_one _ _) _, objAt_lt h, Nat.le_refl _⟩
theorem rst_call {b : Nat} {l l' : List UInt8} {J : Nat} {vs : Array Value} {t : TypeId} {w0 w w1 : World} (h : RSt b l J vs t w0 w) (hc : SrcAt b l' w1) (hg : w.grownBy w1 (some b)) : RSt b l' J vs t w0 w1 := by
  obtain ⟨_, h2, h3, h4, h5⟩ := h
  exact ⟨hc, obj_grown h2 hg (by omega), grown_trans h3 hg, h4, h5⟩
theorem rst_store {b : Nat} {l : List UInt8} {J : Nat} {vs : Array Value} {t : TypeId} {w0 w : World} (h : RSt b l J vs t w0 w) (j : Nat) (u : Value) : RSt b l J (vs.setIfInBounds j u) t w0 (w.setCell ⟨J, j, none⟩ u) := by
  obtain ⟨h1, h2, h3, h4, h5⟩ := h
  exact ⟨objAt_other h1 (by omega) j u, objAt_set h2 j u, grown_store h3 h5 j u, h4, h5⟩
set_option maxRecDepth 100000 in
set_option maxHeartbeats 4000000 in
theorem srcLease_is {b : Nat} {l : List UInt8} (hl : l.length ≤ 140737488355328) (w : World) (h : SrcAt b l w) :
    Calls Try.prog 45 #[.pointer (some ⟨b, 0, none⟩)] w (SrcPost (leaseR V8) (fun j : LeaseD => .agg #[.string j.job, .string j.node, .int .i64 j.til]) b l w) := by
  have s0 := rst_new (t := 27) #[.string ⟨#[]⟩, .string ⟨#[]⟩, .int .i64 0] h
  have H0 := Lib.hid (srcText_is hl _ s0.1)
  have S0 := Lib.hid s0
  clear s0 h
  go_enter Try.func45, Try.ntmps45
  go_wp2_with fail
  refine H0.out.mono ?_
  rintro r w1 ⟨g1, ⟨e, he, rfl⟩ | ⟨a1, l1, hd1, rfl, c1⟩⟩
  · have HE : Hid (leaseR V8 l = .inl e) := by show _ = _; unfold leaseR; rw [bindD_err he]
    have G := Lib.hid (grown_trans S0.out.2.2.1 g1)
    unfold taken
    clear he g1
    go_wp2
    exact ⟨rfl, G.out, .inl ⟨e, HE.out, rfl⟩⟩
  · have D1 := Lib.hid hd1
    have L1 := Lib.hid (short_text hd1 hl)
    have s1 := rst_call S0.out c1 g1
    have s1' : RSt b l1 w.heap.size #[.string a1, .string ⟨#[]⟩, .int .i64 0] 27 w _ := rst_store s1 0 (.string a1)
    have t1 := objAt_cell s1.2.1 0 rfl
    have f1 := objAt_free s1.2.1 0
    have y1 := objAt_lt s1.2.1
    have H1 := Lib.hid (srcText_is L1.out _ s1'.1)
    have S1 := Lib.hid s1'
    clear s1 s1' hd1 c1 g1 H0 S0
    go_wp2_with fail
    refine H1.out.mono ?_
    rintro r w2 ⟨g2, ⟨e, he, rfl⟩ | ⟨a2, l2, hd2, rfl, c2⟩⟩
    · have HE : Hid (leaseR V8 l = .inl e) := by show _ = _; unfold leaseR; rw [bindD_ok D1.out, bindD_err he]
      have G := Lib.hid (grown_trans S1.out.2.2.1 g2)
      unfold taken
      clear he g2
      go_wp2
      exact ⟨rfl, G.out, .inl ⟨e, HE.out, rfl⟩⟩
    · have D2 := Lib.hid hd2
      have L2 := Lib.hid (short_text hd2 L1.out)
      have s2 := rst_call S1.out c2 g2
      have s2' : RSt b l2 w.heap.size #[.string a1, .string a2, .int .i64 0] 27 w _ := rst_store s2 1 (.string a2)
      have t2 := objAt_cell s2.2.1 1 rfl
      have f2 := objAt_free s2.2.1 1
      have y2 := objAt_lt s2.2.1
      have H2 := Lib.hid (srcNum_is L2.out _ s2'.1)
      have S2 := Lib.hid s2'
      clear s2 s2' hd2 c2 g2 H1 S1 t1 f1 y1
      go_wp2_with fail
      refine H2.out.mono ?_
      rintro r w3 ⟨g3, ⟨e, he, rfl⟩ | ⟨a3, l3, hd3, rfl, c3⟩⟩
      · have HE : Hid (leaseR V8 l = .inl e) := by show _ = _; unfold leaseR; rw [bindD_ok D1.out, bindD_ok D2.out, bindD_err he]
        have G := Lib.hid (grown_trans S2.out.2.2.1 g3)
        unfold taken
        clear he g3
        go_wp2
        exact ⟨rfl, G.out, .inl ⟨e, HE.out, rfl⟩⟩
      · have D3 := Lib.hid hd3
        have L3 := Lib.hid (short_int hd3 L2.out)
        have s3 := rst_call S2.out c3 g3
        have s3' : RSt b l3 w.heap.size #[.string a1, .string a2, .int .i64 a3] 27 w _ := rst_store s3 2 (.int .i64 a3)
        have t3 := objAt_cell s3.2.1 2 rfl
        have f3 := objAt_free s3.2.1 2
        have y3 := objAt_lt s3.2.1
        have u0 := objAt_cell s3'.2.1 0 rfl
        have v0_ := objAt_free s3'.2.1 0
        have u1 := objAt_cell s3'.2.1 1 rfl
        have v1_ := objAt_free s3'.2.1 1
        have u2 := objAt_cell s3'.2.1 2 rfl
        have v2_ := objAt_free s3'.2.1 2
        have sF0 : RSt b l3 w.heap.size #[.string a1, .string a2, .int .i64 a3] 27 w _ := rst_store s3' 0 (.string a1)
        have sF1 : RSt b l3 w.heap.size #[.string a1, .string a2, .int .i64 a3] 27 w _ := rst_store sF0 1 (.string a2)
        have sF2 : RSt b l3 w.heap.size #[.string a1, .string a2, .int .i64 a3] 27 w _ := rst_store sF1 2 (.int .i64 a3)
        have sF := sF2
        clear sF0 sF1 sF2
        have e0 := objAt_cell sF.2.1 0 rfl
        have e1 := objAt_cell sF.2.1 1 rfl
        have e2 := objAt_cell sF.2.1 2 rfl
        have SF := Lib.hid sF
        have TT := Lib.hid (And.intro e0 (And.intro e1 (e2)))
        have HE : Hid (leaseR V8 l = .inr (⟨a1, a2, a3⟩, l3)) := by show _ = _; unfold leaseR; rw [bindD_ok D1.out, bindD_ok D2.out, bindD_ok D3.out]; rfl
        clear s3' sF e0 e1 e2 hd3 c3 g3 H2 S2 t2 f2 y2
        go_wp2
        obtain ⟨e0, e1, e2⟩ := TT.out
        exact bodyPost_ret (v := .agg #[.string a1, .string a2, .int .i64 a3]) (by simp [results, Try.results45, go_sem, e0, e1, e2]) rfl ⟨SF.out.2.2.1, .inr ⟨_, _, HE.out, rfl, SF.out.1⟩⟩
set_option maxRecDepth 100000 in
set_option maxHeartbeats 4000000 in
theorem srcNode_1 {b : Nat} {l : List UInt8} (v : Int) (hv : v ≤ 1) (hl : l.length ≤ 140737488355328) (w : World) (h : SrcAt b l w) :
    Calls Try.prog 43 #[.pointer (some ⟨b, 0, none⟩), .int .i64 v] w (SrcPost (nodeR V8 v) (fun j : NodeD => .agg #[.string j.name, .int .i64 j.room, .string j.zone]) b l w) := by
  have s0 := rst_new (t := 25) #[.string ⟨#[]⟩, .int .i64 0, .string ⟨#[]⟩] h
  have H0 := Lib.hid (srcText_is hl _ s0.1)
  have q1 : decide ((1 : Int) < v) = false := by simp; omega
  have S0 := Lib.hid s0
  clear s0 h
  have Q1 := Lib.hid q1
  clear q1
  go_enter Try.func43, Try.ntmps43
  go_wp2_with fail
  refine H0.out.mono ?_
  rintro r w1 ⟨g1, ⟨e, he, rfl⟩ | ⟨a1, l1, hd1, rfl, c1⟩⟩
  · have HE : Hid (nodeR V8 v l = .inl e) := by show _ = _; unfold nodeR; rw [bindD_err he]
    have G := Lib.hid (grown_trans S0.out.2.2.1 g1)
    unfold taken
    clear he g1
    go_wp2
    exact ⟨rfl, G.out, .inl ⟨e, HE.out, rfl⟩⟩
  · have D1 := Lib.hid hd1
    have L1 := Lib.hid (short_text hd1 hl)
    have s1 := rst_call S0.out c1 g1
    have s1' : RSt b l1 w.heap.size #[.string a1, .int .i64 0, .string ⟨#[]⟩] 25 w _ := rst_store s1 0 (.string a1)
    have t1 := objAt_cell s1.2.1 0 rfl
    have f1 := objAt_free s1.2.1 0
    have y1 := objAt_lt s1.2.1
    have H1 := Lib.hid (srcNum_is L1.out _ s1'.1)
    have S1 := Lib.hid s1'
    clear s1 s1' hd1 c1 g1 H0 S0
    go_wp2_with fail
    refine H1.out.mono ?_
    rintro r w2 ⟨g2, ⟨e, he, rfl⟩ | ⟨a2, l2, hd2, rfl, c2⟩⟩
    · have HE : Hid (nodeR V8 v l = .inl e) := by show _ = _; unfold nodeR; rw [bindD_ok D1.out, bindD_err he]
      have G := Lib.hid (grown_trans S1.out.2.2.1 g2)
      unfold taken
      clear he g2
      go_wp2
      exact ⟨rfl, G.out, .inl ⟨e, HE.out, rfl⟩⟩
    · have D2 := Lib.hid hd2
      have L2 := Lib.hid (short_int hd2 L1.out)
      have s2 := rst_call S1.out c2 g2
      have s2' : RSt b l2 w.heap.size #[.string a1, .int .i64 a2, .string ⟨#[]⟩] 25 w _ := rst_store s2 1 (.int .i64 a2)
      have t2 := objAt_cell s2.2.1 1 rfl
      have f2 := objAt_free s2.2.1 1
      have y2 := objAt_lt s2.2.1
      have u0 := objAt_cell s2'.2.1 0 rfl
      have v0_ := objAt_free s2'.2.1 0
      have u1 := objAt_cell s2'.2.1 1 rfl
      have v1_ := objAt_free s2'.2.1 1
      have u2 := objAt_cell s2'.2.1 2 rfl
      have v2_ := objAt_free s2'.2.1 2
      have sF0 : RSt b l2 w.heap.size #[.string a1, .int .i64 a2, .string ⟨#[]⟩] 25 w _ := rst_store s2' 0 (.string a1)
      have sF1 : RSt b l2 w.heap.size #[.string a1, .int .i64 a2, .string ⟨#[]⟩] 25 w _ := rst_store sF0 1 (.int .i64 a2)
      have sF2 : RSt b l2 w.heap.size #[.string a1, .int .i64 a2, .string ⟨#[]⟩] 25 w _ := rst_store sF1 2 (.string ⟨#[]⟩)
      have sF := sF2
      clear sF0 sF1 sF2
      have e0 := objAt_cell sF.2.1 0 rfl
      have e1 := objAt_cell sF.2.1 1 rfl
      have e2 := objAt_cell sF.2.1 2 rfl
      have SF := Lib.hid sF
      have TT := Lib.hid (And.intro e0 (And.intro e1 (e2)))
      have HE : Hid (nodeR V8 v l = .inr (⟨a1, a2, ⟨#[]⟩⟩, l2)) := by show _ = _; unfold nodeR; rw [bindD_ok D1.out, bindD_ok D2.out, Q1.out, if_neg (by simp), bindD_pure]; rfl
      clear s2' sF e0 e1 e2 hd2 c2 g2 H1 S1 t1 f1 y1
      go_wp2
      obtain ⟨e0, e1, e2⟩ := TT.out
      exact bodyPost_ret (v := .agg #[.string a1, .int .i64 a2, .string ⟨#[]⟩]) (by simp [results, Try.results43, go_sem, e0, e1, e2]) rfl ⟨SF.out.2.2.1, .inr ⟨_, _, HE.out, rfl, SF.out.1⟩⟩
set_option maxRecDepth 100000 in
set_option maxHeartbeats 4000000 in
theorem srcNode_2 {b : Nat} {l : List UInt8} (v : Int) (hv : 1 < v) (hl : l.length ≤ 140737488355328) (w : World) (h : SrcAt b l w) :
    Calls Try.prog 43 #[.pointer (some ⟨b, 0, none⟩), .int .i64 v] w (SrcPost (nodeR V8 v) (fun j : NodeD => .agg #[.string j.name, .int .i64 j.room, .string j.zone]) b l w) := by
  have s0 := rst_new (t := 25) #[.string ⟨#[]⟩, .int .i64 0, .string ⟨#[]⟩] h
  have H0 := Lib.hid (srcText_is hl _ s0.1)
  have q1 : decide ((1 : Int) < v) = true := by simp; omega
  have S0 := Lib.hid s0
  clear s0 h
  have Q1 := Lib.hid q1
  clear q1
  go_enter Try.func43, Try.ntmps43
  go_wp2_with fail
  refine H0.out.mono ?_
  rintro r w1 ⟨g1, ⟨e, he, rfl⟩ | ⟨a1, l1, hd1, rfl, c1⟩⟩
  · have HE : Hid (nodeR V8 v l = .inl e) := by show _ = _; unfold nodeR; rw [bindD_err he]
    have G := Lib.hid (grown_trans S0.out.2.2.1 g1)
    unfold taken
    clear he g1
    go_wp2
    exact ⟨rfl, G.out, .inl ⟨e, HE.out, rfl⟩⟩
  · have D1 := Lib.hid hd1
    have L1 := Lib.hid (short_text hd1 hl)
    have s1 := rst_call S0.out c1 g1
    have s1' : RSt b l1 w.heap.size #[.string a1, .int .i64 0, .string ⟨#[]⟩] 25 w _ := rst_store s1 0 (.string a1)
    have t1 := objAt_cell s1.2.1 0 rfl
    have f1 := objAt_free s1.2.1 0
    have y1 := objAt_lt s1.2.1
    have H1 := Lib.hid (srcNum_is L1.out _ s1'.1)
    have S1 := Lib.hid s1'
    clear s1 s1' hd1 c1 g1 H0 S0
    go_wp2_with fail
    refine H1.out.mono ?_
    rintro r w2 ⟨g2, ⟨e, he, rfl⟩ | ⟨a2, l2, hd2, rfl, c2⟩⟩
    · have HE : Hid (nodeR V8 v l = .inl e) := by show _ = _; unfold nodeR; rw [bindD_ok D1.out, bindD_err he]
      have G := Lib.hid (grown_trans S1.out.2.2.1 g2)
      unfold taken
      clear he g2
      go_wp2
      exact ⟨rfl, G.out, .inl ⟨e, HE.out, rfl⟩⟩
    · have D2 := Lib.hid hd2
      have L2 := Lib.hid (short_int hd2 L1.out)
      have s2 := rst_call S1.out c2 g2
      have s2' : RSt b l2 w.heap.size #[.string a1, .int .i64 a2, .string ⟨#[]⟩] 25 w _ := rst_store s2 1 (.int .i64 a2)
      have t2 := objAt_cell s2.2.1 1 rfl
      have f2 := objAt_free s2.2.1 1
      have y2 := objAt_lt s2.2.1
      have H2 := Lib.hid (srcText_is L2.out _ s2'.1)
      have S2 := Lib.hid s2'
      clear s2 s2' hd2 c2 g2 H1 S1 t1 f1 y1
      go_wp2_with fail
      refine H2.out.mono ?_
      rintro r w3 ⟨g3, ⟨e, he, rfl⟩ | ⟨a3, l3, hd3, rfl, c3⟩⟩
      · have HE : Hid (nodeR V8 v l = .inl e) := by show _ = _; unfold nodeR; rw [bindD_ok D1.out, bindD_ok D2.out, Q1.out, if_pos rfl, bindD_err he]
        have G := Lib.hid (grown_trans S2.out.2.2.1 g3)
        unfold taken
        clear he g3
        go_wp2
        exact ⟨rfl, G.out, .inl ⟨e, HE.out, rfl⟩⟩
      · have D3 := Lib.hid hd3
        have L3 := Lib.hid (short_text hd3 L2.out)
        have s3 := rst_call S2.out c3 g3
        have s3' : RSt b l3 w.heap.size #[.string a1, .int .i64 a2, .string a3] 25 w _ := rst_store s3 2 (.string a3)
        have t3 := objAt_cell s3.2.1 2 rfl
        have f3 := objAt_free s3.2.1 2
        have y3 := objAt_lt s3.2.1
        have u0 := objAt_cell s3'.2.1 0 rfl
        have v0_ := objAt_free s3'.2.1 0
        have u1 := objAt_cell s3'.2.1 1 rfl
        have v1_ := objAt_free s3'.2.1 1
        have u2 := objAt_cell s3'.2.1 2 rfl
        have v2_ := objAt_free s3'.2.1 2
        have sF0 : RSt b l3 w.heap.size #[.string a1, .int .i64 a2, .string a3] 25 w _ := rst_store s3' 0 (.string a1)
        have sF1 : RSt b l3 w.heap.size #[.string a1, .int .i64 a2, .string a3] 25 w _ := rst_store sF0 1 (.int .i64 a2)
        have sF2 : RSt b l3 w.heap.size #[.string a1, .int .i64 a2, .string a3] 25 w _ := rst_store sF1 2 (.string a3)
        have sF := sF2
        clear sF0 sF1 sF2
        have e0 := objAt_cell sF.2.1 0 rfl
        have e1 := objAt_cell sF.2.1 1 rfl
        have e2 := objAt_cell sF.2.1 2 rfl
        have SF := Lib.hid sF
        have TT := Lib.hid (And.intro e0 (And.intro e1 (e2)))
        have HE : Hid (nodeR V8 v l = .inr (⟨a1, a2, a3⟩, l3)) := by show _ = _; unfold nodeR; rw [bindD_ok D1.out, bindD_ok D2.out, Q1.out, if_pos rfl, bindD_ok D3.out]; rfl
        clear s3' sF e0 e1 e2 hd3 c3 g3 H2 S2 t2 f2 y2
        go_wp2
        obtain ⟨e0, e1, e2⟩ := TT.out
        exact bodyPost_ret (v := .agg #[.string a1, .int .i64 a2, .string a3]) (by simp [results, Try.results43, go_sem, e0, e1, e2]) rfl ⟨SF.out.2.2.1, .inr ⟨_, _, HE.out, rfl, SF.out.1⟩⟩
set_option maxRecDepth 100000 in
set_option maxHeartbeats 4000000 in
theorem srcJob_1 {b : Nat} {l : List UInt8} (v : Int) (hv : v ≤ 1) (hl : l.length ≤ 140737488355328) (w : World) (h : SrcAt b l w) :
    Calls Try.prog 42 #[.pointer (some ⟨b, 0, none⟩), .int .i64 v] w (SrcPost (jobR V8 v) (fun j : JobD => .agg #[.string j.name, .int .i64 j.prio, .int .i64 j.need, .int .i64 j.tries, .string j.tag]) b l w) := by
  have s0 := rst_new (t := 23) #[.string ⟨#[]⟩, .int .i64 0, .int .i64 0, .int .i64 0, .string ⟨#[]⟩] h
  have H0 := Lib.hid (srcText_is hl _ s0.1)
  have q1 : decide ((1 : Int) < v) = false := by simp; omega
  have q2 : decide ((2 : Int) < v) = false := by simp; omega
  have S0 := Lib.hid s0
  clear s0 h
  have Q1 := Lib.hid q1
  clear q1
  have Q2 := Lib.hid q2
  clear q2
  go_enter Try.func42, Try.ntmps42
  go_wp2_with fail
  refine H0.out.mono ?_
  rintro r w1 ⟨g1, ⟨e, he, rfl⟩ | ⟨a1, l1, hd1, rfl, c1⟩⟩
  · have HE : Hid (jobR V8 v l = .inl e) := by show _ = _; unfold jobR; rw [bindD_err he]
    have G := Lib.hid (grown_trans S0.out.2.2.1 g1)
    unfold taken
    clear he g1
    go_wp2
    exact ⟨rfl, G.out, .inl ⟨e, HE.out, rfl⟩⟩
  · have D1 := Lib.hid hd1
    have L1 := Lib.hid (short_text hd1 hl)
    have s1 := rst_call S0.out c1 g1
    have s1' : RSt b l1 w.heap.size #[.string a1, .int .i64 0, .int .i64 0, .int .i64 0, .string ⟨#[]⟩] 23 w _ := rst_store s1 0 (.string a1)
    have t1 := objAt_cell s1.2.1 0 rfl
    have f1 := objAt_free s1.2.1 0
    have y1 := objAt_lt s1.2.1
    have H1 := Lib.hid (srcBig_is L1.out _ s1'.1)
    have S1 := Lib.hid s1'
    clear s1 s1' hd1 c1 g1 H0 S0
    go_wp2_with fail
    refine H1.out.mono ?_
    rintro r w2 ⟨g2, ⟨e, he, rfl⟩ | ⟨a2, l2, hd2, rfl, c2⟩⟩
    · have HE : Hid (jobR V8 v l = .inl e) := by show _ = _; unfold jobR; rw [bindD_ok D1.out, bindD_err (zig_err he)]
      have G := Lib.hid (grown_trans S1.out.2.2.1 g2)
      unfold taken
      clear he g2
      go_wp2
      exact ⟨rfl, G.out, .inl ⟨e, HE.out, rfl⟩⟩
    · have D2 := Lib.hid (zig_ok hd2)
      have hle2 : a2 ≤ 4611686018427387904 := ((numC 4611686018427387904 (by omega)).sound _ _ _ hd2).1
      have L2 := Lib.hid (short_num (by omega) hd2 L1.out)
      have HZ := Lib.hid (fun w' => rzag_any (a2 : Int) w' (by simp [Lit.wf, IntKind.min, IntKind.max, IntKind.signed, IntKind.bits]; omega))
      obtain ⟨z2, hz2⟩ : ∃ z, zag (a2 : Int) = z := ⟨_, rfl⟩
      rw [hz2] at HZ D2
      have s2 := rst_call S1.out c2 g2
      have s2' : RSt b l2 w.heap.size #[.string a1, .int .i64 z2, .int .i64 0, .int .i64 0, .string ⟨#[]⟩] 23 w _ := rst_store s2 1 (.int .i64 z2)
      have t2 := objAt_cell s2.2.1 1 rfl
      have f2 := objAt_free s2.2.1 1
      have y2 := objAt_lt s2.2.1
      have H2 := Lib.hid (srcNum_is L2.out _ s2'.1)
      have S2 := Lib.hid s2'
      clear s2 s2' hd2 c2 g2 H1 S1 t1 f1 y1
      go_wp2_with fail
      refine (HZ.out _).mono ?_
      rintro r w' ⟨rfl, rfl⟩
      go_wp2_with fail
      refine H2.out.mono ?_
      rintro r w3 ⟨g3, ⟨e, he, rfl⟩ | ⟨a3, l3, hd3, rfl, c3⟩⟩
      · have HE : Hid (jobR V8 v l = .inl e) := by show _ = _; unfold jobR; rw [bindD_ok D1.out, bindD_ok D2.out, bindD_err he]
        have G := Lib.hid (grown_trans S2.out.2.2.1 g3)
        unfold taken
        clear he g3
        go_wp2
        exact ⟨rfl, G.out, .inl ⟨e, HE.out, rfl⟩⟩
      · have D3 := Lib.hid hd3
        have L3 := Lib.hid (short_int hd3 L2.out)
        have s3 := rst_call S2.out c3 g3
        have s3' : RSt b l3 w.heap.size #[.string a1, .int .i64 z2, .int .i64 a3, .int .i64 0, .string ⟨#[]⟩] 23 w _ := rst_store s3 2 (.int .i64 a3)
        have t3 := objAt_cell s3.2.1 2 rfl
        have f3 := objAt_free s3.2.1 2
        have y3 := objAt_lt s3.2.1
        have u0 := objAt_cell s3'.2.1 0 rfl
        have v0_ := objAt_free s3'.2.1 0
        have u1 := objAt_cell s3'.2.1 1 rfl
        have v1_ := objAt_free s3'.2.1 1
        have u2 := objAt_cell s3'.2.1 2 rfl
        have v2_ := objAt_free s3'.2.1 2
        have u3 := objAt_cell s3'.2.1 3 rfl
        have v3_ := objAt_free s3'.2.1 3
        have u4 := objAt_cell s3'.2.1 4 rfl
        have v4_ := objAt_free s3'.2.1 4
        have sF0 : RSt b l3 w.heap.size #[.string a1, .int .i64 z2, .int .i64 a3, .int .i64 0, .string ⟨#[]⟩] 23 w _ := rst_store s3' 0 (.string a1)
        have sF1 : RSt b l3 w.heap.size #[.string a1, .int .i64 z2, .int .i64 a3, .int .i64 0, .string ⟨#[]⟩] 23 w _ := rst_store sF0 1 (.int .i64 z2)
        have sF2 : RSt b l3 w.heap.size #[.string a1, .int .i64 z2, .int .i64 a3, .int .i64 0, .string ⟨#[]⟩] 23 w _ := rst_store sF1 2 (.int .i64 a3)
        have sF3 : RSt b l3 w.heap.size #[.string a1, .int .i64 z2, .int .i64 a3, .int .i64 0, .string ⟨#[]⟩] 23 w _ := rst_store sF2 3 (.int .i64 0)
        have sF4 : RSt b l3 w.heap.size #[.string a1, .int .i64 z2, .int .i64 a3, .int .i64 0, .string ⟨#[]⟩] 23 w _ := rst_store sF3 4 (.string ⟨#[]⟩)
        have sF := sF4
        clear sF0 sF1 sF2 sF3 sF4
        have e0 := objAt_cell sF.2.1 0 rfl
        have e1 := objAt_cell sF.2.1 1 rfl
        have e2 := objAt_cell sF.2.1 2 rfl
        have e3 := objAt_cell sF.2.1 3 rfl
        have e4 := objAt_cell sF.2.1 4 rfl
        have SF := Lib.hid sF
        have TT := Lib.hid (And.intro e0 (And.intro e1 (And.intro e2 (And.intro e3 (e4)))))
        have HE : Hid (jobR V8 v l = .inr (⟨a1, z2, a3, 0, ⟨#[]⟩⟩, l3)) := by show _ = _; unfold jobR; rw [bindD_ok D1.out, bindD_ok D2.out, bindD_ok D3.out, Q1.out, if_neg (by simp), bindD_pure, Q2.out, if_neg (by simp), bindD_pure]; rfl
        clear s3' sF e0 e1 e2 e3 e4 hd3 c3 g3 H2 S2 t2 f2 y2
        go_wp2
        obtain ⟨e0, e1, e2, e3, e4⟩ := TT.out
        exact bodyPost_ret (v := .agg #[.string a1, .int .i64 z2, .int .i64 a3, .int .i64 0, .string ⟨#[]⟩]) (by simp [results, Try.results42, go_sem, e0, e1, e2, e3, e4]) rfl ⟨SF.out.2.2.1, .inr ⟨_, _, HE.out, rfl, SF.out.1⟩⟩
set_option maxRecDepth 100000 in
set_option maxHeartbeats 4000000 in
theorem srcJob_2 {b : Nat} {l : List UInt8} (v : Int) (hv : 1 < v) (hv2 : v ≤ 2) (hl : l.length ≤ 140737488355328) (w : World) (h : SrcAt b l w) :
    Calls Try.prog 42 #[.pointer (some ⟨b, 0, none⟩), .int .i64 v] w (SrcPost (jobR V8 v) (fun j : JobD => .agg #[.string j.name, .int .i64 j.prio, .int .i64 j.need, .int .i64 j.tries, .string j.tag]) b l w) := by
  have s0 := rst_new (t := 23) #[.string ⟨#[]⟩, .int .i64 0, .int .i64 0, .int .i64 0, .string ⟨#[]⟩] h
  have H0 := Lib.hid (srcText_is hl _ s0.1)
  have q1 : decide ((1 : Int) < v) = true := by simp; omega
  have q2 : decide ((2 : Int) < v) = false := by simp; omega
  have S0 := Lib.hid s0
  clear s0 h
  have Q1 := Lib.hid q1
  clear q1
  have Q2 := Lib.hid q2
  clear q2
  go_enter Try.func42, Try.ntmps42
  go_wp2_with fail
  refine H0.out.mono ?_
  rintro r w1 ⟨g1, ⟨e, he, rfl⟩ | ⟨a1, l1, hd1, rfl, c1⟩⟩
  · have HE : Hid (jobR V8 v l = .inl e) := by show _ = _; unfold jobR; rw [bindD_err he]
    have G := Lib.hid (grown_trans S0.out.2.2.1 g1)
    unfold taken
    clear he g1
    go_wp2
    exact ⟨rfl, G.out, .inl ⟨e, HE.out, rfl⟩⟩
  · have D1 := Lib.hid hd1
    have L1 := Lib.hid (short_text hd1 hl)
    have s1 := rst_call S0.out c1 g1
    have s1' : RSt b l1 w.heap.size #[.string a1, .int .i64 0, .int .i64 0, .int .i64 0, .string ⟨#[]⟩] 23 w _ := rst_store s1 0 (.string a1)
    have t1 := objAt_cell s1.2.1 0 rfl
    have f1 := objAt_free s1.2.1 0
    have y1 := objAt_lt s1.2.1
    have H1 := Lib.hid (srcBig_is L1.out _ s1'.1)
    have S1 := Lib.hid s1'
    clear s1 s1' hd1 c1 g1 H0 S0
    go_wp2_with fail
    refine H1.out.mono ?_
    rintro r w2 ⟨g2, ⟨e, he, rfl⟩ | ⟨a2, l2, hd2, rfl, c2⟩⟩
    · have HE : Hid (jobR V8 v l = .inl e) := by show _ = _; unfold jobR; rw [bindD_ok D1.out, bindD_err (zig_err he)]
      have G := Lib.hid (grown_trans S1.out.2.2.1 g2)
      unfold taken
      clear he g2
      go_wp2
      exact ⟨rfl, G.out, .inl ⟨e, HE.out, rfl⟩⟩
    · have D2 := Lib.hid (zig_ok hd2)
      have hle2 : a2 ≤ 4611686018427387904 := ((numC 4611686018427387904 (by omega)).sound _ _ _ hd2).1
      have L2 := Lib.hid (short_num (by omega) hd2 L1.out)
      have HZ := Lib.hid (fun w' => rzag_any (a2 : Int) w' (by simp [Lit.wf, IntKind.min, IntKind.max, IntKind.signed, IntKind.bits]; omega))
      obtain ⟨z2, hz2⟩ : ∃ z, zag (a2 : Int) = z := ⟨_, rfl⟩
      rw [hz2] at HZ D2
      have s2 := rst_call S1.out c2 g2
      have s2' : RSt b l2 w.heap.size #[.string a1, .int .i64 z2, .int .i64 0, .int .i64 0, .string ⟨#[]⟩] 23 w _ := rst_store s2 1 (.int .i64 z2)
      have t2 := objAt_cell s2.2.1 1 rfl
      have f2 := objAt_free s2.2.1 1
      have y2 := objAt_lt s2.2.1
      have H2 := Lib.hid (srcNum_is L2.out _ s2'.1)
      have S2 := Lib.hid s2'
      clear s2 s2' hd2 c2 g2 H1 S1 t1 f1 y1
      go_wp2_with fail
      refine (HZ.out _).mono ?_
      rintro r w' ⟨rfl, rfl⟩
      go_wp2_with fail
      refine H2.out.mono ?_
      rintro r w3 ⟨g3, ⟨e, he, rfl⟩ | ⟨a3, l3, hd3, rfl, c3⟩⟩
      · have HE : Hid (jobR V8 v l = .inl e) := by show _ = _; unfold jobR; rw [bindD_ok D1.out, bindD_ok D2.out, bindD_err he]
        have G := Lib.hid (grown_trans S2.out.2.2.1 g3)
        unfold taken
        clear he g3
        go_wp2
        exact ⟨rfl, G.out, .inl ⟨e, HE.out, rfl⟩⟩
      · have D3 := Lib.hid hd3
        have L3 := Lib.hid (short_int hd3 L2.out)
        have s3 := rst_call S2.out c3 g3
        have s3' : RSt b l3 w.heap.size #[.string a1, .int .i64 z2, .int .i64 a3, .int .i64 0, .string ⟨#[]⟩] 23 w _ := rst_store s3 2 (.int .i64 a3)
        have t3 := objAt_cell s3.2.1 2 rfl
        have f3 := objAt_free s3.2.1 2
        have y3 := objAt_lt s3.2.1
        have H3 := Lib.hid (srcNum_is L3.out _ s3'.1)
        have S3 := Lib.hid s3'
        clear s3 s3' hd3 c3 g3 H2 S2 t2 f2 y2
        go_wp2_with fail
        refine H3.out.mono ?_
        rintro r w4 ⟨g4, ⟨e, he, rfl⟩ | ⟨a4, l4, hd4, rfl, c4⟩⟩
        · have HE : Hid (jobR V8 v l = .inl e) := by show _ = _; unfold jobR; rw [bindD_ok D1.out, bindD_ok D2.out, bindD_ok D3.out, Q1.out, if_pos rfl, bindD_err he]
          have G := Lib.hid (grown_trans S3.out.2.2.1 g4)
          unfold taken
          clear he g4
          go_wp2
          exact ⟨rfl, G.out, .inl ⟨e, HE.out, rfl⟩⟩
        · have D4 := Lib.hid hd4
          have L4 := Lib.hid (short_int hd4 L3.out)
          have s4 := rst_call S3.out c4 g4
          have s4' : RSt b l4 w.heap.size #[.string a1, .int .i64 z2, .int .i64 a3, .int .i64 a4, .string ⟨#[]⟩] 23 w _ := rst_store s4 3 (.int .i64 a4)
          have t4 := objAt_cell s4.2.1 3 rfl
          have f4 := objAt_free s4.2.1 3
          have y4 := objAt_lt s4.2.1
          have u0 := objAt_cell s4'.2.1 0 rfl
          have v0_ := objAt_free s4'.2.1 0
          have u1 := objAt_cell s4'.2.1 1 rfl
          have v1_ := objAt_free s4'.2.1 1
          have u2 := objAt_cell s4'.2.1 2 rfl
          have v2_ := objAt_free s4'.2.1 2
          have u3 := objAt_cell s4'.2.1 3 rfl
          have v3_ := objAt_free s4'.2.1 3
          have u4 := objAt_cell s4'.2.1 4 rfl
          have v4_ := objAt_free s4'.2.1 4
          have sF0 : RSt b l4 w.heap.size #[.string a1, .int .i64 z2, .int .i64 a3, .int .i64 a4, .string ⟨#[]⟩] 23 w _ := rst_store s4' 0 (.string a1)
          have sF1 : RSt b l4 w.heap.size #[.string a1, .int .i64 z2, .int .i64 a3, .int .i64 a4, .string ⟨#[]⟩] 23 w _ := rst_store sF0 1 (.int .i64 z2)
          have sF2 : RSt b l4 w.heap.size #[.string a1, .int .i64 z2, .int .i64 a3, .int .i64 a4, .string ⟨#[]⟩] 23 w _ := rst_store sF1 2 (.int .i64 a3)
          have sF3 : RSt b l4 w.heap.size #[.string a1, .int .i64 z2, .int .i64 a3, .int .i64 a4, .string ⟨#[]⟩] 23 w _ := rst_store sF2 3 (.int .i64 a4)
          have sF4 : RSt b l4 w.heap.size #[.string a1, .int .i64 z2, .int .i64 a3, .int .i64 a4, .string ⟨#[]⟩] 23 w _ := rst_store sF3 4 (.string ⟨#[]⟩)
          have sF := sF4
          clear sF0 sF1 sF2 sF3 sF4
          have e0 := objAt_cell sF.2.1 0 rfl
          have e1 := objAt_cell sF.2.1 1 rfl
          have e2 := objAt_cell sF.2.1 2 rfl
          have e3 := objAt_cell sF.2.1 3 rfl
          have e4 := objAt_cell sF.2.1 4 rfl
          have SF := Lib.hid sF
          have TT := Lib.hid (And.intro e0 (And.intro e1 (And.intro e2 (And.intro e3 (e4)))))
          have HE : Hid (jobR V8 v l = .inr (⟨a1, z2, a3, a4, ⟨#[]⟩⟩, l4)) := by show _ = _; unfold jobR; rw [bindD_ok D1.out, bindD_ok D2.out, bindD_ok D3.out, Q1.out, if_pos rfl, bindD_ok D4.out, Q2.out, if_neg (by simp), bindD_pure]; rfl
          clear s4' sF e0 e1 e2 e3 e4 hd4 c4 g4 H3 S3 t3 f3 y3
          go_wp2
          obtain ⟨e0, e1, e2, e3, e4⟩ := TT.out
          exact bodyPost_ret (v := .agg #[.string a1, .int .i64 z2, .int .i64 a3, .int .i64 a4, .string ⟨#[]⟩]) (by simp [results, Try.results42, go_sem, e0, e1, e2, e3, e4]) rfl ⟨SF.out.2.2.1, .inr ⟨_, _, HE.out, rfl, SF.out.1⟩⟩
set_option maxRecDepth 100000 in
set_option maxHeartbeats 4000000 in
theorem srcJob_3 {b : Nat} {l : List UInt8} (v : Int) (hv : 2 < v) (hl : l.length ≤ 140737488355328) (w : World) (h : SrcAt b l w) :
    Calls Try.prog 42 #[.pointer (some ⟨b, 0, none⟩), .int .i64 v] w (SrcPost (jobR V8 v) (fun j : JobD => .agg #[.string j.name, .int .i64 j.prio, .int .i64 j.need, .int .i64 j.tries, .string j.tag]) b l w) := by
  have s0 := rst_new (t := 23) #[.string ⟨#[]⟩, .int .i64 0, .int .i64 0, .int .i64 0, .string ⟨#[]⟩] h
  have H0 := Lib.hid (srcText_is hl _ s0.1)
  have q1 : decide ((1 : Int) < v) = true := by simp; omega
  have q2 : decide ((2 : Int) < v) = true := by simp; omega
  have S0 := Lib.hid s0
  clear s0 h
  have Q1 := Lib.hid q1
  clear q1
  have Q2 := Lib.hid q2
  clear q2
  go_enter Try.func42, Try.ntmps42
  go_wp2_with fail
  refine H0.out.mono ?_
  rintro r w1 ⟨g1, ⟨e, he, rfl⟩ | ⟨a1, l1, hd1, rfl, c1⟩⟩
  · have HE : Hid (jobR V8 v l = .inl e) := by show _ = _; unfold jobR; rw [bindD_err he]
    have G := Lib.hid (grown_trans S0.out.2.2.1 g1)
    unfold taken
    clear he g1
    go_wp2
    exact ⟨rfl, G.out, .inl ⟨e, HE.out, rfl⟩⟩
  · have D1 := Lib.hid hd1
    have L1 := Lib.hid (short_text hd1 hl)
    have s1 := rst_call S0.out c1 g1
    have s1' : RSt b l1 w.heap.size #[.string a1, .int .i64 0, .int .i64 0, .int .i64 0, .string ⟨#[]⟩] 23 w _ := rst_store s1 0 (.string a1)
    have t1 := objAt_cell s1.2.1 0 rfl
    have f1 := objAt_free s1.2.1 0
    have y1 := objAt_lt s1.2.1
    have H1 := Lib.hid (srcBig_is L1.out _ s1'.1)
    have S1 := Lib.hid s1'
    clear s1 s1' hd1 c1 g1 H0 S0
    go_wp2_with fail
    refine H1.out.mono ?_
    rintro r w2 ⟨g2, ⟨e, he, rfl⟩ | ⟨a2, l2, hd2, rfl, c2⟩⟩
    · have HE : Hid (jobR V8 v l = .inl e) := by show _ = _; unfold jobR; rw [bindD_ok D1.out, bindD_err (zig_err he)]
      have G := Lib.hid (grown_trans S1.out.2.2.1 g2)
      unfold taken
      clear he g2
      go_wp2
      exact ⟨rfl, G.out, .inl ⟨e, HE.out, rfl⟩⟩
    · have D2 := Lib.hid (zig_ok hd2)
      have hle2 : a2 ≤ 4611686018427387904 := ((numC 4611686018427387904 (by omega)).sound _ _ _ hd2).1
      have L2 := Lib.hid (short_num (by omega) hd2 L1.out)
      have HZ := Lib.hid (fun w' => rzag_any (a2 : Int) w' (by simp [Lit.wf, IntKind.min, IntKind.max, IntKind.signed, IntKind.bits]; omega))
      obtain ⟨z2, hz2⟩ : ∃ z, zag (a2 : Int) = z := ⟨_, rfl⟩
      rw [hz2] at HZ D2
      have s2 := rst_call S1.out c2 g2
      have s2' : RSt b l2 w.heap.size #[.string a1, .int .i64 z2, .int .i64 0, .int .i64 0, .string ⟨#[]⟩] 23 w _ := rst_store s2 1 (.int .i64 z2)
      have t2 := objAt_cell s2.2.1 1 rfl
      have f2 := objAt_free s2.2.1 1
      have y2 := objAt_lt s2.2.1
      have H2 := Lib.hid (srcNum_is L2.out _ s2'.1)
      have S2 := Lib.hid s2'
      clear s2 s2' hd2 c2 g2 H1 S1 t1 f1 y1
      go_wp2_with fail
      refine (HZ.out _).mono ?_
      rintro r w' ⟨rfl, rfl⟩
      go_wp2_with fail
      refine H2.out.mono ?_
      rintro r w3 ⟨g3, ⟨e, he, rfl⟩ | ⟨a3, l3, hd3, rfl, c3⟩⟩
      · have HE : Hid (jobR V8 v l = .inl e) := by show _ = _; unfold jobR; rw [bindD_ok D1.out, bindD_ok D2.out, bindD_err he]
        have G := Lib.hid (grown_trans S2.out.2.2.1 g3)
        unfold taken
        clear he g3
        go_wp2
        exact ⟨rfl, G.out, .inl ⟨e, HE.out, rfl⟩⟩
      · have D3 := Lib.hid hd3
        have L3 := Lib.hid (short_int hd3 L2.out)
        have s3 := rst_call S2.out c3 g3
        have s3' : RSt b l3 w.heap.size #[.string a1, .int .i64 z2, .int .i64 a3, .int .i64 0, .string ⟨#[]⟩] 23 w _ := rst_store s3 2 (.int .i64 a3)
        have t3 := objAt_cell s3.2.1 2 rfl
        have f3 := objAt_free s3.2.1 2
        have y3 := objAt_lt s3.2.1
        have H3 := Lib.hid (srcNum_is L3.out _ s3'.1)
        have S3 := Lib.hid s3'
        clear s3 s3' hd3 c3 g3 H2 S2 t2 f2 y2
        go_wp2_with fail
        refine H3.out.mono ?_
        rintro r w4 ⟨g4, ⟨e, he, rfl⟩ | ⟨a4, l4, hd4, rfl, c4⟩⟩
        · have HE : Hid (jobR V8 v l = .inl e) := by show _ = _; unfold jobR; rw [bindD_ok D1.out, bindD_ok D2.out, bindD_ok D3.out, Q1.out, if_pos rfl, bindD_err he]
          have G := Lib.hid (grown_trans S3.out.2.2.1 g4)
          unfold taken
          clear he g4
          go_wp2
          exact ⟨rfl, G.out, .inl ⟨e, HE.out, rfl⟩⟩
        · have D4 := Lib.hid hd4
          have L4 := Lib.hid (short_int hd4 L3.out)
          have s4 := rst_call S3.out c4 g4
          have s4' : RSt b l4 w.heap.size #[.string a1, .int .i64 z2, .int .i64 a3, .int .i64 a4, .string ⟨#[]⟩] 23 w _ := rst_store s4 3 (.int .i64 a4)
          have t4 := objAt_cell s4.2.1 3 rfl
          have f4 := objAt_free s4.2.1 3
          have y4 := objAt_lt s4.2.1
          have H4 := Lib.hid (srcText_is L4.out _ s4'.1)
          have S4 := Lib.hid s4'
          clear s4 s4' hd4 c4 g4 H3 S3 t3 f3 y3
          go_wp2_with fail
          refine H4.out.mono ?_
          rintro r w5 ⟨g5, ⟨e, he, rfl⟩ | ⟨a5, l5, hd5, rfl, c5⟩⟩
          · have HE : Hid (jobR V8 v l = .inl e) := by show _ = _; unfold jobR; rw [bindD_ok D1.out, bindD_ok D2.out, bindD_ok D3.out, Q1.out, if_pos rfl, bindD_ok D4.out, Q2.out, if_pos rfl, bindD_err he]
            have G := Lib.hid (grown_trans S4.out.2.2.1 g5)
            unfold taken
            clear he g5
            go_wp2
            exact ⟨rfl, G.out, .inl ⟨e, HE.out, rfl⟩⟩
          · have D5 := Lib.hid hd5
            have L5 := Lib.hid (short_text hd5 L4.out)
            have s5 := rst_call S4.out c5 g5
            have s5' : RSt b l5 w.heap.size #[.string a1, .int .i64 z2, .int .i64 a3, .int .i64 a4, .string a5] 23 w _ := rst_store s5 4 (.string a5)
            have t5 := objAt_cell s5.2.1 4 rfl
            have f5 := objAt_free s5.2.1 4
            have y5 := objAt_lt s5.2.1
            have u0 := objAt_cell s5'.2.1 0 rfl
            have v0_ := objAt_free s5'.2.1 0
            have u1 := objAt_cell s5'.2.1 1 rfl
            have v1_ := objAt_free s5'.2.1 1
            have u2 := objAt_cell s5'.2.1 2 rfl
            have v2_ := objAt_free s5'.2.1 2
            have u3 := objAt_cell s5'.2.1 3 rfl
            have v3_ := objAt_free s5'.2.1 3
            have u4 := objAt_cell s5'.2.1 4 rfl
            have v4_ := objAt_free s5'.2.1 4
            have sF0 : RSt b l5 w.heap.size #[.string a1, .int .i64 z2, .int .i64 a3, .int .i64 a4, .string a5] 23 w _ := rst_store s5' 0 (.string a1)
            have sF1 : RSt b l5 w.heap.size #[.string a1, .int .i64 z2, .int .i64 a3, .int .i64 a4, .string a5] 23 w _ := rst_store sF0 1 (.int .i64 z2)
            have sF2 : RSt b l5 w.heap.size #[.string a1, .int .i64 z2, .int .i64 a3, .int .i64 a4, .string a5] 23 w _ := rst_store sF1 2 (.int .i64 a3)
            have sF3 : RSt b l5 w.heap.size #[.string a1, .int .i64 z2, .int .i64 a3, .int .i64 a4, .string a5] 23 w _ := rst_store sF2 3 (.int .i64 a4)
            have sF4 : RSt b l5 w.heap.size #[.string a1, .int .i64 z2, .int .i64 a3, .int .i64 a4, .string a5] 23 w _ := rst_store sF3 4 (.string a5)
            have sF := sF4
            clear sF0 sF1 sF2 sF3 sF4
            have e0 := objAt_cell sF.2.1 0 rfl
            have e1 := objAt_cell sF.2.1 1 rfl
            have e2 := objAt_cell sF.2.1 2 rfl
            have e3 := objAt_cell sF.2.1 3 rfl
            have e4 := objAt_cell sF.2.1 4 rfl
            have SF := Lib.hid sF
            have TT := Lib.hid (And.intro e0 (And.intro e1 (And.intro e2 (And.intro e3 (e4)))))
            have HE : Hid (jobR V8 v l = .inr (⟨a1, z2, a3, a4, a5⟩, l5)) := by show _ = _; unfold jobR; rw [bindD_ok D1.out, bindD_ok D2.out, bindD_ok D3.out, Q1.out, if_pos rfl, bindD_ok D4.out, Q2.out, if_pos rfl, bindD_ok D5.out]; rfl
            clear s5' sF e0 e1 e2 e3 e4 hd5 c5 g5 H4 S4 t4 f4 y4
            go_wp2
            obtain ⟨e0, e1, e2, e3, e4⟩ := TT.out
            exact bodyPost_ret (v := .agg #[.string a1, .int .i64 z2, .int .i64 a3, .int .i64 a4, .string a5]) (by simp [results, Try.results42, go_sem, e0, e1, e2, e3, e4]) rfl ⟨SF.out.2.2.1, .inr ⟨_, _, HE.out, rfl, SF.out.1⟩⟩
theorem srcNode_is {b : Nat} {l : List UInt8} (v : Int) (hl : l.length ≤ 140737488355328) (w : World) (h : SrcAt b l w) :
    Calls Try.prog 43 #[.pointer (some ⟨b, 0, none⟩), .int .i64 v] w (SrcPost (nodeR V8 v) (fun j : NodeD => .agg #[.string j.name, .int .i64 j.room, .string j.zone]) b l w) := by
  by_cases hv : v ≤ 1
  · exact srcNode_1 v hv hl w h
  · exact srcNode_2 v (by omega) hl w h
theorem srcJob_is {b : Nat} {l : List UInt8} (v : Int) (hl : l.length ≤ 140737488355328) (w : World) (h : SrcAt b l w) :
    Calls Try.prog 42 #[.pointer (some ⟨b, 0, none⟩), .int .i64 v] w (SrcPost (jobR V8 v) (fun j : JobD => .agg #[.string j.name, .int .i64 j.prio, .int .i64 j.need, .int .i64 j.tries, .string j.tag]) b l w) := by
  by_cases hv : v ≤ 1
  · exact srcJob_1 v hv hl w h
  · by_cases hv2 : v ≤ 2
    · exact srcJob_2 v (by omega) hv2 hl w h
    · exact srcJob_3 v (by omega) hl w h
end Go.Proofs.Ytklpmhiaihabaaa
