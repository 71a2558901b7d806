/- Package req: whole, the coder's way through a request, kind by kind. -/
import Derived.Test.YtklpmhiaihabaaaGRqCheckA
import Derived.Test.YtklpmhiaihabaaaGRqPut
import Derived.Deep.RegionLaw
namespace Go.Proofs.Ytklpmhiaihabaaa
open Go.RowKit Go.Lib

set_option maxRecDepth 100000 in
set_option maxHeartbeats 8000000 in
theorem qwhole1_is [Inhabited UV] {b : Nat} {m m1 : M} (kq : Int) (hk : numbS kq m = (1, m1)) (n0 : 0 ≤ kq ∧ kq ≤ 4611686018427387904) (j : JobD) (n : NodeD) (l : LeaseD) (nm : ByteArray) (N : Int) (hok : okJob V8 3 j) (hs : m.rest.size ≤ 1152921504606846976) (hg : m.gs.length ≤ 900000000) (w : World) (h : CodeAt b 3 m w) (hE : Env b w) :
    Calls Try.prog 30 #[.pointer (some ⟨b, 0, none⟩), .agg #[.int .i64 kq, .string j.name, .int .i64 j.prio, .int .i64 j.need, .int .i64 j.tries, .string j.tag, .string n.name, .int .i64 n.room, .string n.zone, .string l.job, .string l.node, .int .i64 l.til, .string nm, .int .i64 N]] w fun x w' => x = .returned (.agg #[.int .i64 1, .string (jobS 3 j m1).1.name, .int .i64 (jobS 3 j m1).1.prio, .int .i64 (jobS 3 j m1).1.need, .int .i64 (jobS 3 j m1).1.tries, .string (jobS 3 j m1).1.tag, .string ⟨#[]⟩, .int .i64 0, .string ⟨#[]⟩, .string ⟨#[]⟩, .string ⟨#[]⟩, .int .i64 0, .string ⟨#[]⟩, .int .i64 0]) ∧ CodeAt b 3 (jobS 3 j m1).2 w' ∧ Keep b w w' := by
  have s0 := pairSt_new (t := 29) #[.int .i64 kq, .string j.name, .int .i64 j.prio, .int .i64 j.need, .int .i64 j.tries, .string j.tag, .string n.name, .int .i64 n.room, .string n.zone, .string l.job, .string l.node, .int .i64 l.til, .string nm, .int .i64 N] #[.int .i64 0, .string ⟨#[]⟩, .int .i64 0, .int .i64 0, .int .i64 0, .string ⟨#[]⟩, .string ⟨#[]⟩, .int .i64 0, .string ⟨#[]⟩, .string ⟨#[]⟩, .string ⟨#[]⟩, .int .i64 0, .string ⟨#[]⟩, .int .i64 0] h (by decide)
  have l1 := lim_numb n0.2 m
  rw [hk] at l1
  simp only at l1
  have hs1 : m1.rest.size ≤ 1152921504606846976 := by omega
  have hg1 : m1.gs.length ≤ 1000000000 := by omega
  have H0 := number_in kq n0 hs (by omega) _ s0.1
  rw [hk] at H0
  have H0 := Lib.hid H0
  have HE := Lib.hid hE
  have HPS : ∀ V : World, CodeAt b 3 m1 V → Env b V → Calls Try.prog 87 #[.agg #[.string j.name, .int .i64 j.prio, .int .i64 j.need, .int .i64 j.tries, .string j.tag], .pointer (some ⟨b, 0, none⟩)] V fun x w' => x = .returned (.iface 81 (.agg #[.string (jobS 3 j m1).1.name, .int .i64 (jobS 3 j m1).1.prio, .int .i64 (jobS 3 j m1).1.need, .int .i64 (jobS 3 j m1).1.tries, .string (jobS 3 j m1).1.tag])) ∧ CodeAt b 3 (jobS 3 j m1).2 w' ∧ Keep b V w' := fun V hV hEV => jobPass_is j hok hs1 hg1 V hV hEV
  obtain ⟨r, hr⟩ : ∃ r, jobS 3 j m1 = r := ⟨_, rfl⟩
  simp only [hr] at HPS ⊢
  have HPS := Lib.hid HPS
  have HRQ := Lib.hid (jobRequest_is r.1 1)
  have hm := m_job_pass (.agg #[.string j.name, .int .i64 j.prio, .int .i64 j.need, .int .i64 j.tries, .string j.tag])
  have hmr := m_job_request (.agg #[.string r.1.name, .int .i64 r.1.prio, .int .i64 r.1.need, .int .i64 r.1.tries, .string r.1.tag])
  have S0 := Lib.hid s0
  have c0 := objAt_cell s0.2.1 0 rfl
  clear s0 h hE hr hok n0 l1 hs hg hk
  go_enter Try.func30, Try.ntmps30
  go_wp2_with fail
  refine H0.out.mono ?_
  rintro x w1 ⟨rfl, h1, k1⟩
  have s1 := pairSt_call S0.out h1 k1
  have s1' : PairSt b 3 29 m1 #[.int .i64 1, .string j.name, .int .i64 j.prio, .int .i64 j.need, .int .i64 j.tries, .string j.tag, .string n.name, .int .i64 n.room, .string n.zone, .string l.job, .string l.node, .int .i64 l.til, .string nm, .int .i64 N] #[.int .i64 0, .string ⟨#[]⟩, .int .i64 0, .int .i64 0, .int .i64 0, .string ⟨#[]⟩, .string ⟨#[]⟩, .int .i64 0, .string ⟨#[]⟩, .string ⟨#[]⟩, .string ⟨#[]⟩, .int .i64 0, .string ⟨#[]⟩, .int .i64 0] w _ := pairSt_store s1 0 (.int .i64 1)
  have f0 := objAt_free s1.2.1 0
  clear c0
  have c0 := objAt_cell s1.2.1 0 rfl
  have z0 := objAt_lt s1.2.1
  have SW := Lib.hid s1'
  clear s1 s1' S0 H0 h1 k1
  go_upto_region 2 with fail
  clear f0 c0 z0
  generalize w1.setCell ⟨w.heap.size, 0, none⟩ (.int .i64 1) = W at SW ⊢
  have k0 := objAt_cell SW.out.2.1 0 rfl
  have k1 := objAt_cell SW.out.2.1 1 rfl
  have k2 := objAt_cell SW.out.2.1 2 rfl
  have k3 := objAt_cell SW.out.2.1 3 rfl
  have k4 := objAt_cell SW.out.2.1 4 rfl
  have k5 := objAt_cell SW.out.2.1 5 rfl
  have k6 := objAt_cell SW.out.2.1 6 rfl
  have k7 := objAt_cell SW.out.2.1 7 rfl
  have k8 := objAt_cell SW.out.2.1 8 rfl
  have k9 := objAt_cell SW.out.2.1 9 rfl
  have k10 := objAt_cell SW.out.2.1 10 rfl
  have k11 := objAt_cell SW.out.2.1 11 rfl
  have k12 := objAt_cell SW.out.2.1 12 rfl
  have k13 := objAt_cell SW.out.2.1 13 rfl
  have HP := Lib.hid (pay1_is j n l nm N W)
  go_wp2_with fail
  refine HP.out.mono ?_
  rintro e w2 ⟨rfl, x2⟩
  have s2 := pairSt_call SW.out (code_next SW.out.1 x2) (keep_below x2)
  clear k0 k1 k2 k3 k4 k5 k6 k7 k8 k9 k10 k11 k12 k13 HP x2
  have S2 := Lib.hid s2
  clear s2 SW
  go_upto_region 6 with fail
  have k0 := objAt_cell S2.out.2.1 0 rfl
  have zl := objAt_lt S2.out.2.2.1
  go_region_law (first
    | (go_simp; go_at_call 87; refine (HPS.out w2.drew (pairSt_drew S2.out).1 (env_keep HE.out (keep_trans S2.out.2.2.2.1 (keep_drew b w2)))).mono ?_; rintro x x3 ⟨rfl, h3, k3⟩; have s3 := pairSt_call (w := w2.drew) (pairSt_drew S2.out) h3 k3; have S3 := Lib.hid s3; have g0 := objAt_cell s3.2.1 0 rfl; have zl3 := objAt_lt s3.2.2.1; clear s3 h3 k3)
    | (go_simp; go_at_call 88; refine (HRQ.out _).mono ?_; rintro x x4 ⟨rfl, b4⟩; have s4 := pairSt_call S3.out (code_next S3.out.1 b4) (keep_below b4); have S4 := Lib.hid s4; have f0 := objAt_free s4.2.2.1 0; have y0 := objAt_cell s4.2.2.1 0 rfl; have f1 := objAt_free s4.2.2.1 1; have y1 := objAt_cell s4.2.2.1 1 rfl; have f2 := objAt_free s4.2.2.1 2; have y2 := objAt_cell s4.2.2.1 2 rfl; have f3 := objAt_free s4.2.2.1 3; have y3 := objAt_cell s4.2.2.1 3 rfl; have f4 := objAt_free s4.2.2.1 4; have y4 := objAt_cell s4.2.2.1 4 rfl; have f5 := objAt_free s4.2.2.1 5; have y5 := objAt_cell s4.2.2.1 5 rfl; have f6 := objAt_free s4.2.2.1 6; have y6 := objAt_cell s4.2.2.1 6 rfl; have f7 := objAt_free s4.2.2.1 7; have y7 := objAt_cell s4.2.2.1 7 rfl; have f8 := objAt_free s4.2.2.1 8; have y8 := objAt_cell s4.2.2.1 8 rfl; have f9 := objAt_free s4.2.2.1 9; have y9 := objAt_cell s4.2.2.1 9 rfl; have f10 := objAt_free s4.2.2.1 10; have y10 := objAt_cell s4.2.2.1 10 rfl; have f11 := objAt_free s4.2.2.1 11; have y11 := objAt_cell s4.2.2.1 11 rfl; have f12 := objAt_free s4.2.2.1 12; have y12 := objAt_cell s4.2.2.1 12 rfl; have f13 := objAt_free s4.2.2.1 13; have y13 := objAt_cell s4.2.2.1 13 rfl; have zl4 := objAt_lt s4.2.2.1; clear s4 b4))
  all_goals
    have sF := pairSt_put14 S4.out (.int .i64 1) (.string r.1.name) (.int .i64 r.1.prio) (.int .i64 r.1.need) (.int .i64 r.1.tries) (.string r.1.tag) (.string ⟨#[]⟩) (.int .i64 0) (.string ⟨#[]⟩) (.string ⟨#[]⟩) (.string ⟨#[]⟩) (.int .i64 0) (.string ⟨#[]⟩) (.int .i64 0)
    have t0 := objAt_cell sF.2.2.1 0 rfl
    have t1 := objAt_cell sF.2.2.1 1 rfl
    have t2 := objAt_cell sF.2.2.1 2 rfl
    have t3 := objAt_cell sF.2.2.1 3 rfl
    have t4 := objAt_cell sF.2.2.1 4 rfl
    have t5 := objAt_cell sF.2.2.1 5 rfl
    have t6 := objAt_cell sF.2.2.1 6 rfl
    have t7 := objAt_cell sF.2.2.1 7 rfl
    have t8 := objAt_cell sF.2.2.1 8 rfl
    have t9 := objAt_cell sF.2.2.1 9 rfl
    have t10 := objAt_cell sF.2.2.1 10 rfl
    have t11 := objAt_cell sF.2.2.1 11 rfl
    have t12 := objAt_cell sF.2.2.1 12 rfl
    have t13 := objAt_cell sF.2.2.1 13 rfl
    have TT := Lib.hid (And.intro t0 ( And.intro t1 ( And.intro t2 ( And.intro t3 ( And.intro t4 ( And.intro t5 ( And.intro t6 ( And.intro t7 ( And.intro t8 ( And.intro t9 ( And.intro t10 ( And.intro t11 (And.intro t12 t13)))))))))))))
    have SF := Lib.hid sF
    clear sF t0 t1 t2 t3 t4 t5 t6 t7 t8 t9 t10 t11 t12 t13
    go_wp2
    obtain ⟨t0, t1, t2, t3, t4, t5, t6, t7, t8, t9, t10, t11, t12, t13⟩ := TT.out
    exact bodyPost_ret (v := .agg #[.int .i64 1, .string r.1.name, .int .i64 r.1.prio, .int .i64 r.1.need, .int .i64 r.1.tries, .string r.1.tag, .string ⟨#[]⟩, .int .i64 0, .string ⟨#[]⟩, .string ⟨#[]⟩, .string ⟨#[]⟩, .int .i64 0, .string ⟨#[]⟩, .int .i64 0]) (by simp [results, Try.results30, go_sem, t0, t1, t2, t3, t4, t5, t6, t7, t8, t9, t10, t11, t12, t13]) rfl ⟨rfl, SF.out.1, SF.out.2.2.2.1⟩
set_option maxRecDepth 100000 in
set_option maxHeartbeats 8000000 in
theorem qwhole2_is [Inhabited UV] {b : Nat} {m m1 : M} (kq : Int) (hk : numbS kq m = (2, m1)) (n0 : 0 ≤ kq ∧ kq ≤ 4611686018427387904) (j : JobD) (n : NodeD) (l : LeaseD) (nm : ByteArray) (N : Int) (hok : okNode V8 3 n) (hs : m.rest.size ≤ 1152921504606846976) (hg : m.gs.length ≤ 900000000) (w : World) (h : CodeAt b 3 m w) (hE : Env b w) :
    Calls Try.prog 30 #[.pointer (some ⟨b, 0, none⟩), .agg #[.int .i64 kq, .string j.name, .int .i64 j.prio, .int .i64 j.need, .int .i64 j.tries, .string j.tag, .string n.name, .int .i64 n.room, .string n.zone, .string l.job, .string l.node, .int .i64 l.til, .string nm, .int .i64 N]] w fun x w' => x = .returned (.agg #[.int .i64 2, .string ⟨#[]⟩, .int .i64 0, .int .i64 0, .int .i64 0, .string ⟨#[]⟩, .string (nodeS 3 n m1).1.name, .int .i64 (nodeS 3 n m1).1.room, .string (nodeS 3 n m1).1.zone, .string ⟨#[]⟩, .string ⟨#[]⟩, .int .i64 0, .string ⟨#[]⟩, .int .i64 0]) ∧ CodeAt b 3 (nodeS 3 n m1).2 w' ∧ Keep b w w' := by
  have s0 := pairSt_new (t := 29) #[.int .i64 kq, .string j.name, .int .i64 j.prio, .int .i64 j.need, .int .i64 j.tries, .string j.tag, .string n.name, .int .i64 n.room, .string n.zone, .string l.job, .string l.node, .int .i64 l.til, .string nm, .int .i64 N] #[.int .i64 0, .string ⟨#[]⟩, .int .i64 0, .int .i64 0, .int .i64 0, .string ⟨#[]⟩, .string ⟨#[]⟩, .int .i64 0, .string ⟨#[]⟩, .string ⟨#[]⟩, .string ⟨#[]⟩, .int .i64 0, .string ⟨#[]⟩, .int .i64 0] h (by decide)
  have l1 := lim_numb n0.2 m
  rw [hk] at l1
  simp only at l1
  have hs1 : m1.rest.size ≤ 1152921504606846976 := by omega
  have hg1 : m1.gs.length ≤ 1000000000 := by omega
  have H0 := number_in kq n0 hs (by omega) _ s0.1
  rw [hk] at H0
  have H0 := Lib.hid H0
  have HE := Lib.hid hE
  have HPS : ∀ V : World, CodeAt b 3 m1 V → Env b V → Calls Try.prog 118 #[.agg #[.string n.name, .int .i64 n.room, .string n.zone], .pointer (some ⟨b, 0, none⟩)] V fun x w' => x = .returned (.iface 83 (.agg #[.string (nodeS 3 n m1).1.name, .int .i64 (nodeS 3 n m1).1.room, .string (nodeS 3 n m1).1.zone])) ∧ CodeAt b 3 (nodeS 3 n m1).2 w' ∧ Keep b V w' := fun V hV hEV => nodePass_is n hok hs1 hg1 V hV hEV
  obtain ⟨r, hr⟩ : ∃ r, nodeS 3 n m1 = r := ⟨_, rfl⟩
  simp only [hr] at HPS ⊢
  have HPS := Lib.hid HPS
  have HRQ := Lib.hid (nodeRequest_is r.1 2)
  have hm := m_node_pass (.agg #[.string n.name, .int .i64 n.room, .string n.zone])
  have hmr := m_node_request (.agg #[.string r.1.name, .int .i64 r.1.room, .string r.1.zone])
  have S0 := Lib.hid s0
  have c0 := objAt_cell s0.2.1 0 rfl
  clear s0 h hE hr hok n0 l1 hs hg hk
  go_enter Try.func30, Try.ntmps30
  go_wp2_with fail
  refine H0.out.mono ?_
  rintro x w1 ⟨rfl, h1, k1⟩
  have s1 := pairSt_call S0.out h1 k1
  have s1' : PairSt b 3 29 m1 #[.int .i64 2, .string j.name, .int .i64 j.prio, .int .i64 j.need, .int .i64 j.tries, .string j.tag, .string n.name, .int .i64 n.room, .string n.zone, .string l.job, .string l.node, .int .i64 l.til, .string nm, .int .i64 N] #[.int .i64 0, .string ⟨#[]⟩, .int .i64 0, .int .i64 0, .int .i64 0, .string ⟨#[]⟩, .string ⟨#[]⟩, .int .i64 0, .string ⟨#[]⟩, .string ⟨#[]⟩, .string ⟨#[]⟩, .int .i64 0, .string ⟨#[]⟩, .int .i64 0] w _ := pairSt_store s1 0 (.int .i64 2)
  have f0 := objAt_free s1.2.1 0
  clear c0
  have c0 := objAt_cell s1.2.1 0 rfl
  have z0 := objAt_lt s1.2.1
  have SW := Lib.hid s1'
  clear s1 s1' S0 H0 h1 k1
  go_upto_region 2 with fail
  clear f0 c0 z0
  generalize w1.setCell ⟨w.heap.size, 0, none⟩ (.int .i64 2) = W at SW ⊢
  have k0 := objAt_cell SW.out.2.1 0 rfl
  have k1 := objAt_cell SW.out.2.1 1 rfl
  have k2 := objAt_cell SW.out.2.1 2 rfl
  have k3 := objAt_cell SW.out.2.1 3 rfl
  have k4 := objAt_cell SW.out.2.1 4 rfl
  have k5 := objAt_cell SW.out.2.1 5 rfl
  have k6 := objAt_cell SW.out.2.1 6 rfl
  have k7 := objAt_cell SW.out.2.1 7 rfl
  have k8 := objAt_cell SW.out.2.1 8 rfl
  have k9 := objAt_cell SW.out.2.1 9 rfl
  have k10 := objAt_cell SW.out.2.1 10 rfl
  have k11 := objAt_cell SW.out.2.1 11 rfl
  have k12 := objAt_cell SW.out.2.1 12 rfl
  have k13 := objAt_cell SW.out.2.1 13 rfl
  have HP := Lib.hid (pay2_is j n l nm N W)
  go_wp2_with fail
  refine HP.out.mono ?_
  rintro e w2 ⟨rfl, x2⟩
  have s2 := pairSt_call SW.out (code_next SW.out.1 x2) (keep_below x2)
  clear k0 k1 k2 k3 k4 k5 k6 k7 k8 k9 k10 k11 k12 k13 HP x2
  have S2 := Lib.hid s2
  clear s2 SW
  go_upto_region 6 with fail
  have k0 := objAt_cell S2.out.2.1 0 rfl
  have zl := objAt_lt S2.out.2.2.1
  go_region_law (first
    | (go_simp; go_at_call 118; refine (HPS.out w2.drew (pairSt_drew S2.out).1 (env_keep HE.out (keep_trans S2.out.2.2.2.1 (keep_drew b w2)))).mono ?_; rintro x x3 ⟨rfl, h3, k3⟩; have s3 := pairSt_call (w := w2.drew) (pairSt_drew S2.out) h3 k3; have S3 := Lib.hid s3; have g0 := objAt_cell s3.2.1 0 rfl; have zl3 := objAt_lt s3.2.2.1; clear s3 h3 k3)
    | (go_simp; go_at_call 119; refine (HRQ.out _).mono ?_; rintro x x4 ⟨rfl, b4⟩; have s4 := pairSt_call S3.out (code_next S3.out.1 b4) (keep_below b4); have S4 := Lib.hid s4; have f0 := objAt_free s4.2.2.1 0; have y0 := objAt_cell s4.2.2.1 0 rfl; have f1 := objAt_free s4.2.2.1 1; have y1 := objAt_cell s4.2.2.1 1 rfl; have f2 := objAt_free s4.2.2.1 2; have y2 := objAt_cell s4.2.2.1 2 rfl; have f3 := objAt_free s4.2.2.1 3; have y3 := objAt_cell s4.2.2.1 3 rfl; have f4 := objAt_free s4.2.2.1 4; have y4 := objAt_cell s4.2.2.1 4 rfl; have f5 := objAt_free s4.2.2.1 5; have y5 := objAt_cell s4.2.2.1 5 rfl; have f6 := objAt_free s4.2.2.1 6; have y6 := objAt_cell s4.2.2.1 6 rfl; have f7 := objAt_free s4.2.2.1 7; have y7 := objAt_cell s4.2.2.1 7 rfl; have f8 := objAt_free s4.2.2.1 8; have y8 := objAt_cell s4.2.2.1 8 rfl; have f9 := objAt_free s4.2.2.1 9; have y9 := objAt_cell s4.2.2.1 9 rfl; have f10 := objAt_free s4.2.2.1 10; have y10 := objAt_cell s4.2.2.1 10 rfl; have f11 := objAt_free s4.2.2.1 11; have y11 := objAt_cell s4.2.2.1 11 rfl; have f12 := objAt_free s4.2.2.1 12; have y12 := objAt_cell s4.2.2.1 12 rfl; have f13 := objAt_free s4.2.2.1 13; have y13 := objAt_cell s4.2.2.1 13 rfl; have zl4 := objAt_lt s4.2.2.1; clear s4 b4))
  all_goals
    have sF := pairSt_put14 S4.out (.int .i64 2) (.string ⟨#[]⟩) (.int .i64 0) (.int .i64 0) (.int .i64 0) (.string ⟨#[]⟩) (.string r.1.name) (.int .i64 r.1.room) (.string r.1.zone) (.string ⟨#[]⟩) (.string ⟨#[]⟩) (.int .i64 0) (.string ⟨#[]⟩) (.int .i64 0)
    have t0 := objAt_cell sF.2.2.1 0 rfl
    have t1 := objAt_cell sF.2.2.1 1 rfl
    have t2 := objAt_cell sF.2.2.1 2 rfl
    have t3 := objAt_cell sF.2.2.1 3 rfl
    have t4 := objAt_cell sF.2.2.1 4 rfl
    have t5 := objAt_cell sF.2.2.1 5 rfl
    have t6 := objAt_cell sF.2.2.1 6 rfl
    have t7 := objAt_cell sF.2.2.1 7 rfl
    have t8 := objAt_cell sF.2.2.1 8 rfl
    have t9 := objAt_cell sF.2.2.1 9 rfl
    have t10 := objAt_cell sF.2.2.1 10 rfl
    have t11 := objAt_cell sF.2.2.1 11 rfl
    have t12 := objAt_cell sF.2.2.1 12 rfl
    have t13 := objAt_cell sF.2.2.1 13 rfl
    have TT := Lib.hid (And.intro t0 ( And.intro t1 ( And.intro t2 ( And.intro t3 ( And.intro t4 ( And.intro t5 ( And.intro t6 ( And.intro t7 ( And.intro t8 ( And.intro t9 ( And.intro t10 ( And.intro t11 (And.intro t12 t13)))))))))))))
    have SF := Lib.hid sF
    clear sF t0 t1 t2 t3 t4 t5 t6 t7 t8 t9 t10 t11 t12 t13
    go_wp2
    obtain ⟨t0, t1, t2, t3, t4, t5, t6, t7, t8, t9, t10, t11, t12, t13⟩ := TT.out
    exact bodyPost_ret (v := .agg #[.int .i64 2, .string ⟨#[]⟩, .int .i64 0, .int .i64 0, .int .i64 0, .string ⟨#[]⟩, .string r.1.name, .int .i64 r.1.room, .string r.1.zone, .string ⟨#[]⟩, .string ⟨#[]⟩, .int .i64 0, .string ⟨#[]⟩, .int .i64 0]) (by simp [results, Try.results30, go_sem, t0, t1, t2, t3, t4, t5, t6, t7, t8, t9, t10, t11, t12, t13]) rfl ⟨rfl, SF.out.1, SF.out.2.2.2.1⟩
set_option maxRecDepth 100000 in
set_option maxHeartbeats 8000000 in
theorem qwhole3_is [Inhabited UV] {b : Nat} {m m1 : M} (kq : Int) (hk : numbS kq m = (3, m1)) (n0 : 0 ≤ kq ∧ kq ≤ 4611686018427387904) (j : JobD) (n : NodeD) (l : LeaseD) (nm : ByteArray) (N : Int) (hok : m.reading = false → isNote V8 nm = true) (hs : m.rest.size ≤ 1152921504606846976) (hg : m.gs.length ≤ 900000000) (w : World) (h : CodeAt b 3 m w) (hE : Env b w) :
    Calls Try.prog 30 #[.pointer (some ⟨b, 0, none⟩), .agg #[.int .i64 kq, .string j.name, .int .i64 j.prio, .int .i64 j.need, .int .i64 j.tries, .string j.tag, .string n.name, .int .i64 n.room, .string n.zone, .string l.job, .string l.node, .int .i64 l.til, .string nm, .int .i64 N]] w fun x w' => x = .returned (.agg #[.int .i64 3, .string ⟨#[]⟩, .int .i64 0, .int .i64 0, .int .i64 0, .string ⟨#[]⟩, .string ⟨#[]⟩, .int .i64 0, .string ⟨#[]⟩, .string ⟨#[]⟩, .string ⟨#[]⟩, .int .i64 0, .string (txtS nm m1).1, .int .i64 0]) ∧ CodeAt b 3 (txtS nm m1).2 w' ∧ Keep b w w' := by
  have s0 := pairSt_new (t := 29) #[.int .i64 kq, .string j.name, .int .i64 j.prio, .int .i64 j.need, .int .i64 j.tries, .string j.tag, .string n.name, .int .i64 n.room, .string n.zone, .string l.job, .string l.node, .int .i64 l.til, .string nm, .int .i64 N] #[.int .i64 0, .string ⟨#[]⟩, .int .i64 0, .int .i64 0, .int .i64 0, .string ⟨#[]⟩, .string ⟨#[]⟩, .int .i64 0, .string ⟨#[]⟩, .string ⟨#[]⟩, .string ⟨#[]⟩, .int .i64 0, .string ⟨#[]⟩, .int .i64 0] h (by decide)
  have l1 := lim_numb n0.2 m
  rw [hk] at l1
  simp only at l1
  have hs1 : m1.rest.size ≤ 1152921504606846976 := by omega
  have hg1 : m1.gs.length ≤ 1000000000 := by omega
  have H0 := number_in kq n0 hs (by omega) _ s0.1
  rw [hk] at H0
  have H0 := Lib.hid H0
  have HE := Lib.hid hE
  have hok1 : m1.reading = false → isNote V8 nm = true := fun e => hok (by rw [← l1.2.2]; exact e)
  have HPS : ∀ V : World, CodeAt b 3 m1 V → Env b V → Calls Try.prog 122 #[.string nm, .pointer (some ⟨b, 0, none⟩)] V fun x w' => x = .returned (.iface 84 (.string (txtS nm m1).1)) ∧ CodeAt b 3 (txtS nm m1).2 w' ∧ Keep b V w' := fun V hV hEV => namePass_is nm hok1 hs1 hg1 V hV hEV
  obtain ⟨r, hr⟩ : ∃ r, txtS nm m1 = r := ⟨_, rfl⟩
  simp only [hr] at HPS ⊢
  have HPS := Lib.hid HPS
  have HRQ := Lib.hid (nameRequest_is r.1 3)
  have hm := m_name_pass (.string nm)
  have hmr := m_name_request (.string r.1)
  have S0 := Lib.hid s0
  have c0 := objAt_cell s0.2.1 0 rfl
  clear s0 h hE hr hok hok1 n0 l1 hs hg hk
  go_enter Try.func30, Try.ntmps30
  go_wp2_with fail
  refine H0.out.mono ?_
  rintro x w1 ⟨rfl, h1, k1⟩
  have s1 := pairSt_call S0.out h1 k1
  have s1' : PairSt b 3 29 m1 #[.int .i64 3, .string j.name, .int .i64 j.prio, .int .i64 j.need, .int .i64 j.tries, .string j.tag, .string n.name, .int .i64 n.room, .string n.zone, .string l.job, .string l.node, .int .i64 l.til, .string nm, .int .i64 N] #[.int .i64 0, .string ⟨#[]⟩, .int .i64 0, .int .i64 0, .int .i64 0, .string ⟨#[]⟩, .string ⟨#[]⟩, .int .i64 0, .string ⟨#[]⟩, .string ⟨#[]⟩, .string ⟨#[]⟩, .int .i64 0, .string ⟨#[]⟩, .int .i64 0] w _ := pairSt_store s1 0 (.int .i64 3)
  have f0 := objAt_free s1.2.1 0
  clear c0
  have c0 := objAt_cell s1.2.1 0 rfl
  have z0 := objAt_lt s1.2.1
  have SW := Lib.hid s1'
  clear s1 s1' S0 H0 h1 k1
  go_upto_region 2 with fail
  clear f0 c0 z0
  generalize w1.setCell ⟨w.heap.size, 0, none⟩ (.int .i64 3) = W at SW ⊢
  have k0 := objAt_cell SW.out.2.1 0 rfl
  have k1 := objAt_cell SW.out.2.1 1 rfl
  have k2 := objAt_cell SW.out.2.1 2 rfl
  have k3 := objAt_cell SW.out.2.1 3 rfl
  have k4 := objAt_cell SW.out.2.1 4 rfl
  have k5 := objAt_cell SW.out.2.1 5 rfl
  have k6 := objAt_cell SW.out.2.1 6 rfl
  have k7 := objAt_cell SW.out.2.1 7 rfl
  have k8 := objAt_cell SW.out.2.1 8 rfl
  have k9 := objAt_cell SW.out.2.1 9 rfl
  have k10 := objAt_cell SW.out.2.1 10 rfl
  have k11 := objAt_cell SW.out.2.1 11 rfl
  have k12 := objAt_cell SW.out.2.1 12 rfl
  have k13 := objAt_cell SW.out.2.1 13 rfl
  have HP := Lib.hid (pay3_is j n l nm N W)
  go_wp2_with fail
  refine HP.out.mono ?_
  rintro e w2 ⟨rfl, x2⟩
  have s2 := pairSt_call SW.out (code_next SW.out.1 x2) (keep_below x2)
  clear k0 k1 k2 k3 k4 k5 k6 k7 k8 k9 k10 k11 k12 k13 HP x2
  have S2 := Lib.hid s2
  clear s2 SW
  go_upto_region 6 with fail
  have k0 := objAt_cell S2.out.2.1 0 rfl
  have zl := objAt_lt S2.out.2.2.1
  go_region_law (first
    | (go_simp; go_at_call 122; refine (HPS.out w2.drew (pairSt_drew S2.out).1 (env_keep HE.out (keep_trans S2.out.2.2.2.1 (keep_drew b w2)))).mono ?_; rintro x x3 ⟨rfl, h3, k3⟩; have s3 := pairSt_call (w := w2.drew) (pairSt_drew S2.out) h3 k3; have S3 := Lib.hid s3; have g0 := objAt_cell s3.2.1 0 rfl; have zl3 := objAt_lt s3.2.2.1; clear s3 h3 k3)
    | (go_simp; go_at_call 123; refine (HRQ.out _).mono ?_; rintro x x4 ⟨rfl, b4⟩; have s4 := pairSt_call S3.out (code_next S3.out.1 b4) (keep_below b4); have S4 := Lib.hid s4; have f0 := objAt_free s4.2.2.1 0; have y0 := objAt_cell s4.2.2.1 0 rfl; have f1 := objAt_free s4.2.2.1 1; have y1 := objAt_cell s4.2.2.1 1 rfl; have f2 := objAt_free s4.2.2.1 2; have y2 := objAt_cell s4.2.2.1 2 rfl; have f3 := objAt_free s4.2.2.1 3; have y3 := objAt_cell s4.2.2.1 3 rfl; have f4 := objAt_free s4.2.2.1 4; have y4 := objAt_cell s4.2.2.1 4 rfl; have f5 := objAt_free s4.2.2.1 5; have y5 := objAt_cell s4.2.2.1 5 rfl; have f6 := objAt_free s4.2.2.1 6; have y6 := objAt_cell s4.2.2.1 6 rfl; have f7 := objAt_free s4.2.2.1 7; have y7 := objAt_cell s4.2.2.1 7 rfl; have f8 := objAt_free s4.2.2.1 8; have y8 := objAt_cell s4.2.2.1 8 rfl; have f9 := objAt_free s4.2.2.1 9; have y9 := objAt_cell s4.2.2.1 9 rfl; have f10 := objAt_free s4.2.2.1 10; have y10 := objAt_cell s4.2.2.1 10 rfl; have f11 := objAt_free s4.2.2.1 11; have y11 := objAt_cell s4.2.2.1 11 rfl; have f12 := objAt_free s4.2.2.1 12; have y12 := objAt_cell s4.2.2.1 12 rfl; have f13 := objAt_free s4.2.2.1 13; have y13 := objAt_cell s4.2.2.1 13 rfl; have zl4 := objAt_lt s4.2.2.1; clear s4 b4))
  all_goals
    have sF := pairSt_put14 S4.out (.int .i64 3) (.string ⟨#[]⟩) (.int .i64 0) (.int .i64 0) (.int .i64 0) (.string ⟨#[]⟩) (.string ⟨#[]⟩) (.int .i64 0) (.string ⟨#[]⟩) (.string ⟨#[]⟩) (.string ⟨#[]⟩) (.int .i64 0) (.string r.1) (.int .i64 0)
    have t0 := objAt_cell sF.2.2.1 0 rfl
    have t1 := objAt_cell sF.2.2.1 1 rfl
    have t2 := objAt_cell sF.2.2.1 2 rfl
    have t3 := objAt_cell sF.2.2.1 3 rfl
    have t4 := objAt_cell sF.2.2.1 4 rfl
    have t5 := objAt_cell sF.2.2.1 5 rfl
    have t6 := objAt_cell sF.2.2.1 6 rfl
    have t7 := objAt_cell sF.2.2.1 7 rfl
    have t8 := objAt_cell sF.2.2.1 8 rfl
    have t9 := objAt_cell sF.2.2.1 9 rfl
    have t10 := objAt_cell sF.2.2.1 10 rfl
    have t11 := objAt_cell sF.2.2.1 11 rfl
    have t12 := objAt_cell sF.2.2.1 12 rfl
    have t13 := objAt_cell sF.2.2.1 13 rfl
    have TT := Lib.hid (And.intro t0 ( And.intro t1 ( And.intro t2 ( And.intro t3 ( And.intro t4 ( And.intro t5 ( And.intro t6 ( And.intro t7 ( And.intro t8 ( And.intro t9 ( And.intro t10 ( And.intro t11 (And.intro t12 t13)))))))))))))
    have SF := Lib.hid sF
    clear sF t0 t1 t2 t3 t4 t5 t6 t7 t8 t9 t10 t11 t12 t13
    go_wp2
    obtain ⟨t0, t1, t2, t3, t4, t5, t6, t7, t8, t9, t10, t11, t12, t13⟩ := TT.out
    exact bodyPost_ret (v := .agg #[.int .i64 3, .string ⟨#[]⟩, .int .i64 0, .int .i64 0, .int .i64 0, .string ⟨#[]⟩, .string ⟨#[]⟩, .int .i64 0, .string ⟨#[]⟩, .string ⟨#[]⟩, .string ⟨#[]⟩, .int .i64 0, .string r.1, .int .i64 0]) (by simp [results, Try.results30, go_sem, t0, t1, t2, t3, t4, t5, t6, t7, t8, t9, t10, t11, t12, t13]) rfl ⟨rfl, SF.out.1, SF.out.2.2.2.1⟩
end Go.Proofs.Ytklpmhiaihabaaa
