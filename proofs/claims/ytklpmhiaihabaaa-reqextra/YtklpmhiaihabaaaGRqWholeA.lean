/- Package req: whole at every request, in one contract. -/
import Derived.Test.YtklpmhiaihabaaaGRqWhA
import Derived.Test.YtklpmhiaihabaaaGRqWhB
import Derived.Test.YtklpmhiaihabaaaGRqWhC
namespace Go.Proofs.Ytklpmhiaihabaaa
open Go.RowKit Go.Lib

set_option maxRecDepth 100000 in
set_option maxHeartbeats 8000000 in
theorem qwhole0_is {b : Nat} {m m1 : M} (kq k : Int) (hk : numbS kq m = (k, m1)) (hk9 : ¬ (1 ≤ k ∧ k ≤ 9)) (n0 : 0 ≤ kq ∧ kq ≤ 4611686018427387904) (j : JobD) (n : NodeD) (l : LeaseD) (nm : ByteArray) (N : Int) (hs : m.rest.size ≤ 1152921504606846976) (hg : m.gs.length ≤ 900000000) (w : World) (h : CodeAt b 3 m w) :
    Calls Try.prog 30 #[.pointer (some ⟨b, 0, none⟩), .agg #[.int .i64 kq, .string j.name, .int .i64 j.prio, .int .i64 j.need, .int .i64 j.tries, .string j.tag, .string n.name, .int .i64 n.room, .string n.zone, .string l.job, .string l.node, .int .i64 l.til, .string nm, .int .i64 N]] w fun x w' => x = .returned (.agg #[.int .i64 0, .string ⟨#[]⟩, .int .i64 0, .int .i64 0, .int .i64 0, .string ⟨#[]⟩, .string ⟨#[]⟩, .int .i64 0, .string ⟨#[]⟩, .string ⟨#[]⟩, .string ⟨#[]⟩, .int .i64 0, .string ⟨#[]⟩, .int .i64 0]) ∧ CodeAt b 3 (m1.fail 1) w' ∧ Keep b w w' := by
  have s0 := pairSt_new (t := 29) #[.int .i64 kq, .string j.name, .int .i64 j.prio, .int .i64 j.need, .int .i64 j.tries, .string j.tag, .string n.name, .int .i64 n.room, .string n.zone, .string l.job, .string l.node, .int .i64 l.til, .string nm, .int .i64 N] #[.int .i64 0, .string ⟨#[]⟩, .int .i64 0, .int .i64 0, .int .i64 0, .string ⟨#[]⟩, .string ⟨#[]⟩, .int .i64 0, .string ⟨#[]⟩, .string ⟨#[]⟩, .string ⟨#[]⟩, .int .i64 0, .string ⟨#[]⟩, .int .i64 0] h (by decide)
  have H0 := number_in kq n0 hs (by omega) _ s0.1
  rw [hk] at H0
  have H0 := Lib.hid H0
  have HPY := Lib.hid (fun V => pay0_is k hk9 j n l nm N V)
  have S0 := Lib.hid s0
  have c0 := objAt_cell s0.2.1 0 rfl
  clear s0 h n0 hs hg hk hk9
  go_enter Try.func30, Try.ntmps30
  go_wp2_with fail
  refine H0.out.mono ?_
  rintro x w1 ⟨rfl, h1, k1⟩
  have s1 := pairSt_call S0.out h1 k1
  have s1' : PairSt b 3 29 m1 #[.int .i64 k, .string j.name, .int .i64 j.prio, .int .i64 j.need, .int .i64 j.tries, .string j.tag, .string n.name, .int .i64 n.room, .string n.zone, .string l.job, .string l.node, .int .i64 l.til, .string nm, .int .i64 N] #[.int .i64 0, .string ⟨#[]⟩, .int .i64 0, .int .i64 0, .int .i64 0, .string ⟨#[]⟩, .string ⟨#[]⟩, .int .i64 0, .string ⟨#[]⟩, .string ⟨#[]⟩, .string ⟨#[]⟩, .int .i64 0, .string ⟨#[]⟩, .int .i64 0] w _ := pairSt_store s1 0 (.int .i64 k)
  have f0 := objAt_free s1.2.1 0
  clear c0
  have c0 := objAt_cell s1.2.1 0 rfl
  have z0 := objAt_lt s1.2.1
  have SW := Lib.hid s1'
  clear s1 s1' S0 H0 h1 k1
  go_upto_region 2 with fail
  clear f0 c0 z0
  generalize w1.setCell ⟨w.heap.size, 0, none⟩ (.int .i64 k) = W at SW ⊢
  have k0 := objAt_cell SW.out.2.1 0 rfl
  have k1 := objAt_cell SW.out.2.1 1 rfl
  have k2 := objAt_cell SW.out.2.1 2 rfl
  have k3 := objAt_cell SW.out.2.1 3 rfl
  have k4 := objAt_cell SW.out.2.1 4 rfl
  have k5 := objAt_cell SW.out.2.1 5 rfl
  have k6 := objAt_cell SW.out.2.1 6 rfl
  have k7 := objAt_cell SW.out.2.1 7 rfl
  have k8 := objAt_cell SW.out.2.1 8 rfl
  have k9 := objAt_cell SW.out.2.1 9 rfl
  have k10 := objAt_cell SW.out.2.1 10 rfl
  have k11 := objAt_cell SW.out.2.1 11 rfl
  have k12 := objAt_cell SW.out.2.1 12 rfl
  have k13 := objAt_cell SW.out.2.1 13 rfl
  have HP := Lib.hid (HPY.out W)
  go_wp2_with fail
  refine HP.out.mono ?_
  rintro e w2 ⟨rfl, x2⟩
  have s2 := pairSt_call SW.out (code_next SW.out.1 x2) (keep_below x2)
  clear k0 k1 k2 k3 k4 k5 k6 k7 k8 k9 k10 k11 k12 k13 HP x2
  have HF := Lib.hid (codeFail_is 1 w2 s2.1)
  have S2 := Lib.hid s2
  clear s2 SW
  go_wp2_with fail
  refine HF.out.mono ?_
  rintro x w3 ⟨rfl, h3, k3⟩
  have s4 := pairSt_call S2.out h3 k3
  have S4 := Lib.hid s4
  have f0 := objAt_free s4.2.2.1 0
  have y0 := objAt_cell s4.2.2.1 0 rfl
  have f1 := objAt_free s4.2.2.1 1
  have y1 := objAt_cell s4.2.2.1 1 rfl
  have f2 := objAt_free s4.2.2.1 2
  have y2 := objAt_cell s4.2.2.1 2 rfl
  have f3 := objAt_free s4.2.2.1 3
  have y3 := objAt_cell s4.2.2.1 3 rfl
  have f4 := objAt_free s4.2.2.1 4
  have y4 := objAt_cell s4.2.2.1 4 rfl
  have f5 := objAt_free s4.2.2.1 5
  have y5 := objAt_cell s4.2.2.1 5 rfl
  have f6 := objAt_free s4.2.2.1 6
  have y6 := objAt_cell s4.2.2.1 6 rfl
  have f7 := objAt_free s4.2.2.1 7
  have y7 := objAt_cell s4.2.2.1 7 rfl
  have f8 := objAt_free s4.2.2.1 8
  have y8 := objAt_cell s4.2.2.1 8 rfl
  have f9 := objAt_free s4.2.2.1 9
  have y9 := objAt_cell s4.2.2.1 9 rfl
  have f10 := objAt_free s4.2.2.1 10
  have y10 := objAt_cell s4.2.2.1 10 rfl
  have f11 := objAt_free s4.2.2.1 11
  have y11 := objAt_cell s4.2.2.1 11 rfl
  have f12 := objAt_free s4.2.2.1 12
  have y12 := objAt_cell s4.2.2.1 12 rfl
  have f13 := objAt_free s4.2.2.1 13
  have y13 := objAt_cell s4.2.2.1 13 rfl
  have zl4 := objAt_lt s4.2.2.1
  have sF := pairSt_put14 s4 (.int .i64 0) (.string ⟨#[]⟩) (.int .i64 0) (.int .i64 0) (.int .i64 0) (.string ⟨#[]⟩) (.string ⟨#[]⟩) (.int .i64 0) (.string ⟨#[]⟩) (.string ⟨#[]⟩) (.string ⟨#[]⟩) (.int .i64 0) (.string ⟨#[]⟩) (.int .i64 0)
  have t0 := objAt_cell sF.2.2.1 0 rfl
  have t1 := objAt_cell sF.2.2.1 1 rfl
  have t2 := objAt_cell sF.2.2.1 2 rfl
  have t3 := objAt_cell sF.2.2.1 3 rfl
  have t4 := objAt_cell sF.2.2.1 4 rfl
  have t5 := objAt_cell sF.2.2.1 5 rfl
  have t6 := objAt_cell sF.2.2.1 6 rfl
  have t7 := objAt_cell sF.2.2.1 7 rfl
  have t8 := objAt_cell sF.2.2.1 8 rfl
  have t9 := objAt_cell sF.2.2.1 9 rfl
  have t10 := objAt_cell sF.2.2.1 10 rfl
  have t11 := objAt_cell sF.2.2.1 11 rfl
  have t12 := objAt_cell sF.2.2.1 12 rfl
  have t13 := objAt_cell sF.2.2.1 13 rfl
  have TT := Lib.hid (And.intro t0 ( And.intro t1 ( And.intro t2 ( And.intro t3 ( And.intro t4 ( And.intro t5 ( And.intro t6 ( And.intro t7 ( And.intro t8 ( And.intro t9 ( And.intro t10 ( And.intro t11 (And.intro t12 t13)))))))))))))
  have SF := Lib.hid sF
  clear sF s4 h3 k3 t0 t1 t2 t3 t4 t5 t6 t7 t8 t9 t10 t11 t12 t13
  go_wp2
  obtain ⟨t0, t1, t2, t3, t4, t5, t6, t7, t8, t9, t10, t11, t12, t13⟩ := TT.out
  exact bodyPost_ret (v := .agg #[.int .i64 0, .string ⟨#[]⟩, .int .i64 0, .int .i64 0, .int .i64 0, .string ⟨#[]⟩, .string ⟨#[]⟩, .int .i64 0, .string ⟨#[]⟩, .string ⟨#[]⟩, .string ⟨#[]⟩, .int .i64 0, .string ⟨#[]⟩, .int .i64 0]) (by simp [results, Try.results30, go_sem, t0, t1, t2, t3, t4, t5, t6, t7, t8, t9, t10, t11, t12, t13]) rfl ⟨rfl, SF.out.1, SF.out.2.2.2.1⟩
/-- What the coder's way through a request wants: one that may be written, or one of zeros that is read over. -/
def InQ [Inhabited UV] (q : ReqD) (m : M) : Prop := (m.reading = false ∧ qcheckE V8 q = 0) ∨ (m.reading = true ∧ q = zeroQ)
theorem inQ_kind [Inhabited UV] {q : ReqD} {m : M} (h : InQ q m) : 0 ≤ q.kind ∧ q.kind ≤ 4611686018427387904 := by
  rcases h with ⟨_, h⟩ | ⟨_, rfl⟩
  · exact (ok_q V8 h).1
  · exact ⟨by decide, by decide⟩
theorem inQ_part [Inhabited UV] {q : ReqD} {m : M} (h : InQ q m) (hr : m.reading = false) : (numbS q.kind m).1 = q.kind ∧ okPart V8 q := by
  rcases h with ⟨_, h⟩ | ⟨h, _⟩
  · exact ⟨numb_same (ok_q V8 h).1.1 hr, (ok_q V8 h).2.2⟩
  · rw [hr] at h; cases h
theorem inQ_zero [Inhabited UV] {q : ReqD} {m : M} (h : InQ q m) (hr : ¬ m.reading = false) : q = zeroQ := by
  rcases h with ⟨h, _⟩ | ⟨_, h⟩
  · exact absurd h hr
  · exact h
set_option maxRecDepth 100000 in
set_option maxHeartbeats 8000000 in
theorem qwhole_any [Inhabited UV] {b : Nat} {m : M} (q : ReqD) (hq : InQ q m) (hs : m.rest.size ≤ 1152921504606846976) (hg : m.gs.length ≤ 900000000) (w : World) (h : CodeAt b 3 m w) (hE : Txt (numbS q.kind m).1 → Env b w) :
    Calls Try.prog 30 #[.pointer (some ⟨b, 0, none⟩), .agg #[.int .i64 q.kind, .string q.job.name, .int .i64 q.job.prio, .int .i64 q.job.need, .int .i64 q.job.tries, .string q.job.tag, .string q.node.name, .int .i64 q.node.room, .string q.node.zone, .string q.lease.job, .string q.lease.node, .int .i64 q.lease.til, .string q.name, .int .i64 q.n]] w fun x w' => x = .returned (.agg #[.int .i64 (qS q m).1.kind, .string (qS q m).1.job.name, .int .i64 (qS q m).1.job.prio, .int .i64 (qS q m).1.job.need, .int .i64 (qS q m).1.job.tries, .string (qS q m).1.job.tag, .string (qS q m).1.node.name, .int .i64 (qS q m).1.node.room, .string (qS q m).1.node.zone, .string (qS q m).1.lease.job, .string (qS q m).1.lease.node, .int .i64 (qS q m).1.lease.til, .string (qS q m).1.name, .int .i64 (qS q m).1.n]) ∧ CodeAt b 3 (qS q m).2 w' ∧ Keep b w w' := by
  have n0 := inQ_kind hq
  have hpart := inQ_part hq
  have hzero := inQ_zero hq
  clear hq
  obtain ⟨⟨k, m1⟩, hk⟩ : ∃ r, numbS q.kind m = r := ⟨_, rfl⟩
  have e : qS q m = partS k q m1 := by unfold qS bindS; rw [hk]
  rw [hk] at hE hpart
  rw [e]
  clear e
  simp only at hE hpart
  by_cases h9 : 1 ≤ k ∧ k ≤ 9
  · rcases kinds h9 with rfl | rfl | rfl | rfl | rfl | rfl | rfl | rfl | rfl
    · have hok : okJob V8 3 q.job := by
        by_cases hr : m.reading = false
        · obtain ⟨e, hp⟩ := hpart hr
          unfold okPart at hp
          simpa [← e] using hp
        · rw [hzero hr]; exact ok_zJob 3
      exact qwhole1_is q.kind hk n0 q.job q.node q.lease q.name q.n hok hs hg w h (hE ⟨by decide, by decide⟩)
    · have hok : okNode V8 3 q.node := by
        by_cases hr : m.reading = false
        · obtain ⟨e, hp⟩ := hpart hr
          unfold okPart at hp
          simpa [← e] using hp
        · rw [hzero hr]; exact ok_zNode 3
      exact qwhole2_is q.kind hk n0 q.job q.node q.lease q.name q.n hok hs hg w h (hE ⟨by decide, by decide⟩)
    · have hok : m.reading = false → isNote V8 q.name = true := by
        intro hr
        obtain ⟨e, hp⟩ := hpart hr
        unfold okPart at hp
        simpa [← e] using hp
      exact qwhole3_is q.kind hk n0 q.job q.node q.lease q.name q.n hok hs hg w h (hE ⟨by decide, by decide⟩)
    · have hok : m.reading = false → isNote V8 q.name = true := by
        intro hr
        obtain ⟨e, hp⟩ := hpart hr
        unfold okPart at hp
        simpa [← e] using hp
      exact qwhole4_is q.kind hk n0 q.job q.node q.lease q.name q.n hok hs hg w h (hE ⟨by decide, by decide⟩)
    · have hok : okLease V8 q.lease := by
        by_cases hr : m.reading = false
        · obtain ⟨e, hp⟩ := hpart hr
          unfold okPart at hp
          simpa [← e] using hp
        · rw [hzero hr]; exact ok_zLease
      exact qwhole5_is q.kind hk n0 q.job q.node q.lease q.name q.n hok hs hg w h (hE ⟨by decide, by decide⟩)
    · have hok : m.reading = false → isNote V8 q.name = true := by
        intro hr
        obtain ⟨e, hp⟩ := hpart hr
        unfold okPart at hp
        simpa [← e] using hp
      exact qwhole6_is q.kind hk n0 q.job q.node q.lease q.name q.n hok hs hg w h (hE ⟨by decide, by decide⟩)
    · have hok : 0 ≤ q.n ∧ q.n ≤ 4611686018427387904 := by
        by_cases hr : m.reading = false
        · obtain ⟨e, hp⟩ := hpart hr
          unfold okPart at hp
          simpa [← e] using hp
        · rw [hzero hr]; exact ⟨by decide, by decide⟩
      exact qwhole7_is q.kind hk n0 q.job q.node q.lease q.name q.n hok hs hg w h
    · exact qwhole8_is q.kind hk n0 q.job q.node q.lease q.name q.n hs hg w h
    · exact qwhole9_is q.kind hk n0 q.job q.node q.lease q.name q.n hs hg w h
  · rw [part_no h9]; exact qwhole0_is q.kind k hk h9 n0 q.job q.node q.lease q.name q.n hs hg w h
end Go.Proofs.Ytklpmhiaihabaaa
