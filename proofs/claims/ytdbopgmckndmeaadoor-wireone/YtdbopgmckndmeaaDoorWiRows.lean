/- The coder of package wire: the rows of a table. -/
import Derived.Test.YtdbopgmckndmeaaDoorWiRow
import Derived.Test.YtdbopgmckndmeaaDoorStApp
namespace Go.Proofs.YtdbopgmckndmeaaDoor
open Go.RowKit

theorem go_at {α : Type} {f : α → St α} {pad : List α} {m1 mi : M} {ys : List α} {i : Nat} (h : i < pad.length) (H : goS f pad m1 = (ys ++ (goS f (pad.drop i) mi).1, (goS f (pad.drop i) mi).2)) :
    goS f pad m1 = ((ys ++ [(f pad[i] mi).1]) ++ (goS f (pad.drop (i + 1)) (f pad[i] mi).2).1, (goS f (pad.drop (i + 1)) (f pad[i] mi).2).2) := by
  rw [List.drop_eq_getElem_cons h] at H
  rw [H]
  simp [goS, bindS, pureS]
theorem go_end {α : Type} {f : α → St α} {pad : List α} {m1 mi : M} {ys : List α} (H : goS f pad m1 = (ys ++ (goS f (pad.drop pad.length) mi).1, (goS f (pad.drop pad.length) mi).2)) : goS f pad m1 = (ys, mi) := by
  rw [List.drop_length] at H
  rw [H]
  simp [goS, pureS]
theorem padL_length {α : Type} (z : α) (l : List α) (n : Nat) : (padL z l n).length = n := by simp [padL]
theorem padL_in {α : Type} (z : α) (l : List α) (n i : Nat) (h : i < (padL z l n).length) (hi : i < l.length) : (padL z l n)[i] = l[i] := by simp [padL, hi]
theorem padL_out {α : Type} (z : α) (l : List α) (n i : Nat) (h : i < (padL z l n).length) (hi : ¬ i < l.length) : (padL z l n)[i] = z := by simp [padL, hi]
/-- The coder beside a block that was made. -/
def BoxSt (b : Nat) (v : Int) (t : TypeId) (m : M) (c : Nat) (vs : Array Value) (w0 w : World) : Prop :=
  CodeAt b v m w ∧ ObjAt c vs t w ∧ Keep b w0 w ∧ Env b w ∧ b < w0.heap.size ∧ w0.heap.size ≤ c ∧ t ≠ 5
theorem boxSt_new {b : Nat} {v : Int} {t : TypeId} {m : M} {w : World} (vs : Array Value) (h : CodeAt b v m w) (hE : Env b w) (ht : t ≠ 5) : BoxSt b v t m w.heap.size vs w (w.alloc (.cells vs t)) :=
  ⟨code_alloc h _, objAt_new w vs t, keep_alloc b w _, env_keep hE (keep_alloc b w _), code_lt h, Nat.le_refl _, ht⟩
theorem boxSt_store {b c : Nat} {v : Int} {t : TypeId} {m : M} {vs : Array Value} {w0 w : World} (h : BoxSt b v t m c vs w0 w) (j : Nat) (u : Value) : BoxSt b v t m c (vs.setIfInBounds j u) w0 (w.setCell ⟨c, j, none⟩ u) := by
  obtain ⟨h1, h2, h4, h5, h6, h7, h8⟩ := h
  exact ⟨code_set h1 h2 (by omega) h8 j u, objAt_set h2 j u, keep_new h4 h7 j u, env_new h5 h6 h7 j u, h6, h7, h8⟩
set_option maxRecDepth 100000 in
set_option maxHeartbeats 4000000 in
theorem codeJobs_is {b : Nat} {v : Int} {m : M} (xs : List JobD) (ad : Option Addr) (cap most : Nat) (hlen : xs.length ≤ most) (hmost : most ≤ 40) (hok : ∀ x ∈ xs, okJob V8 v x) (hs : m.rest.size ≤ 1152921504606846976) (hg : m.gs.length ≤ 900000000) (w : World) (h : CodeAt b v m w) (hE : Env b w)
    (hx : ∀ w', Keep b w w' → JobsAt w' ad xs) (cb mb : Nat) (h1 : ObjAt cb #[.pointer (some ⟨b, 0, none⟩)] 78 w) (h2 : ObjAt mb #[.int .u64 (most : Int)] 74 w) :
    Calls Tryd.prog 47 #[.slice ad xs.length cap, .func (.func 94) #[] #[.pointer (some ⟨cb, 0, none⟩), .pointer (some ⟨mb, 0, none⟩)], .func (.func 49) #[.pointer (some ⟨b, 0, none⟩)] #[]] w fun r w' => ∃ x, r = .returned x ∧ w'.ownsRow w.heap.size 64 5 x (rowsS most zJob (jobS v) xs m).1.length (cJobs (rowsS most zJob (jobS v) xs m).1) ∧ CodeAt b v (rowsS most zJob (jobS v) xs m).2 w' ∧ Keep b w w' := by
  have H0 := Lib.hid (count_is most xs.length cb mb hlen (by omega) hs (by omega) w h h1 h2)
  have hle := lim_le hlen m
  have hll := lim_lim (most := most) (n := xs.length) (by omega) m
  have eR : rowsS most zJob (jobS v) xs m = goS (jobS v) (padL zJob xs (limS most xs.length m).1) (limS most xs.length m).2 := rfl
  rw [eR]
  generalize limS most xs.length m = q at H0 hle hll ⊢
  obtain ⟨n, m1⟩ := q
  simp only at hle hll H0 ⊢
  have hpl := padL_length zJob xs n
  have hok2 : ∀ (i : Nat) (hi : i < (padL zJob xs n).length), okJob V8 v (padL zJob xs n)[i] := by
    intro i hi
    by_cases hil : i < xs.length
    · rw [padL_in _ _ _ _ hi hil]; exact hok _ (List.getElem_mem _)
    · rw [padL_out _ _ _ _ hi hil]; exact ok_zJob v
  have hlt := code_lt h
  have HX := Lib.hid hx
  have HE := Lib.hid hE
  have HOK := Lib.hid hok2
  have HPL := Lib.hid hpl
  obtain ⟨i0, qi, qz0, qz1, qz2⟩ := info_parts' Tryd.info_job
  have Hi := Lib.hid qi
  have Hz0 := Lib.hid qz0
  have Hz1 := Lib.hid qz1
  have Hz2 := Lib.hid qz2
  clear hx hE hok hok2 h h1 h2 qi qz0 qz1 qz2 eR hlen hpl
  go_enter Tryd.func47, Tryd.ntmps47
  go_wp2_with fail
  refine H0.out.mono ?_
  rintro r w1 ⟨rfl, hc1, hk1⟩
  clear H0
  go_wp2
  go_loopw [7, 14] (fun pv iv wr => ∃ (i : Nat) (mi : M) (ys : List JobD), iv = .int .i64 (i : Int) ∧ i ≤ n ∧ wr.ownsRow w.heap.size 64 5 pv ys.length (cJobs ys) ∧ ys.length = i ∧ CodeAt b v mi wr ∧ Keep b w wr ∧ mi.gs.length ≤ 900000010 + 64 * i ∧ mi.rest.size ≤ 1152921504606846976 ∧ Hid (goS (jobS v) (padL zJob xs n) m1 = (ys ++ (goS (jobS v) ((padL zJob xs n).drop i) mi).1, (goS (jobS v) ((padL zJob xs n).drop i) mi).2))) (fun _ iv _ => n - (intOf iv).toNat)
  case atStart => exact ⟨0, m1, [], rfl, Nat.zero_le _, World.ownsRow_nil _ _ _ _, rfl, hc1, hk1, by omega, by omega, by show _ = _; simp⟩
  case round =>
    clear hc1 hk1
    obtain ⟨i, mi, ys, rfl, hi, hown, hyl, hcode, hk, hgl, hrl, HG⟩ := hrel
    by_cases h : (i : Int) < (n : Int)
    · have hin : i < (padL zJob xs n).length := by rw [HPL.out]; omega
      have hpad := go_at hin HG.out
      have hokx := HOK.out i hin
      have b0 := boxSt_new (t := 64) #[.string ⟨#[]⟩, .int .i64 0, .int .i64 0, .int .i64 0, .string ⟨#[]⟩] hcode (env_keep HE.out hk) (by decide)
      have hwr := hk.size
      have hlm := lim_job hokx mi
      obtain ⟨u, hu⟩ : ∃ u, jobS v (padL zJob xs n)[i] mi = u := ⟨_, rfl⟩
      rw [hu] at hpad hlm
      have HP := Lib.hid hpad
      clear hpad HG
      by_cases hil : (i : Int) < (xs.length : Int)
      · have hil' : i < xs.length := by omega
        obtain ⟨a, rfl, hal, k0, k1, k2, k3, k4⟩ := HX.out _ (keep_trans hk b0.2.2.1) i hil'
        obtain ⟨x, hxi⟩ : ∃ x, xs[i] = x := ⟨_, rfl⟩
        rw [padL_in _ _ _ _ hin hil', hxi] at hu hokx
        rw [hxi] at k0 k1 k2 k3 k4
        have b1 := boxSt_new (t := 64) #[.string x.name, .int .i64 x.prio, .int .i64 x.need, .int .i64 x.tries, .string x.tag] hcode (env_keep HE.out hk) (by decide)
        have HJ := codeJob_is x hokx hrl (by omega) _ b1.1 b1.2.2.2.1
        have y0 := objAt_free b0.2.1 0
        have y1 := objAt_free b0.2.1 1
        have y2 := objAt_free b0.2.1 2
        have y3 := objAt_free b0.2.1 3
        have y4 := objAt_free b0.2.1 4
        have o0 := objAt_cell b1.2.1 0 rfl
        have o1 := objAt_cell b1.2.1 1 rfl
        have o2 := objAt_cell b1.2.1 2 rfl
        have o3 := objAt_cell b1.2.1 3 rfl
        have o4 := objAt_cell b1.2.1 4 rfl
        have hbk : a.block < wr.heap.size + 1 := by simpa using hal
        have p0 := objAt_cell b0.2.1 0 rfl
        have p1 := objAt_cell b0.2.1 1 rfl
        have p2 := objAt_cell b0.2.1 2 rfl
        have p3 := objAt_cell b0.2.1 3 rfl
        have p4 := objAt_cell b0.2.1 4 rfl
        have z0 := objAt_lt b0.2.1
        have B1 := Lib.hid b1
        rw [hu] at HJ
        have HJ := Lib.hid HJ
        clear b0 b1 hokx hu hxi
        go_wp2_with fail
        refine HJ.out.mono ?_
        rintro r w2 ⟨rfl, hc2, hk2⟩
        have K2 := keep_trans B1.out.2.2.1 hk2
        have hown2 := keep_row hown K2 hlt (by decide)
        have hsz := K2.size
        clear HJ B1 p0 p1 p2 p3 p4 z0 k0 k1 k2 k3 k4 y0 o0 y1 o1 y2 o2 y3 o3 y4 o4 hal hbk
        go_wp2_with (at_builtin; refine wpList_append_own _ rfl _ _ 22 rfl w.heap.size 64 i0 _ 5 56 Tryd.underlying22 Hi.out Hz0.out Hz1.out Hz2.out rfl (by decide) _ _ _ rfl (hown2.alloc _) ⟨w2.heap.size, 0, none⟩ 1 1 (cJob u.1) rfl rfl ?c1 ?c2 ?c3 ?c4 ?c5 ?_)
        case c1 => exact job_new w2 u.1 _
        case c2 => exact job_ones u.1
        case c3 => unfold maxLen; omega
        case c4 => omega
        case c5 => simp; omega
        · intro v3 w3 own3 hg3 _
          have hc3 := code_grown (code_alloc hc2 _) (hown2.alloc _) hg3 hlt (by decide)
          have hk3 := keep_grown (keep_trans (keep_trans hk K2) (keep_alloc b w2 _)) hg3 (fun k hk' => (hown2.lt k hk').1)
          clear hcode hk hc2 hk2 hown hown2 hg3 K2
          go_wp2
          go_roundw
          case rel => exact ⟨i + 1, u.2, ys ++ [u.1], by simp, by omega, by rw [cJobs_append, cJobs_one, List.length_append]; simpa [hyl] using own3, by simp [hyl], hc3, hk3, by omega, by omega, HP.out⟩
          case measure => simp [intOf]; omega
      · have hil' : ¬ i < xs.length := by omega
        rw [padL_out _ _ _ _ hin hil'] at hu hokx
        have HJ := codeJob_is zJob hokx hrl (by omega) _ b0.1 b0.2.2.2.1
        have p0 := objAt_cell b0.2.1 0 rfl
        have p1 := objAt_cell b0.2.1 1 rfl
        have p2 := objAt_cell b0.2.1 2 rfl
        have p3 := objAt_cell b0.2.1 3 rfl
        have p4 := objAt_cell b0.2.1 4 rfl
        have z0 := objAt_lt b0.2.1
        have B1 := Lib.hid b0
        rw [hu] at HJ
        have HJ := Lib.hid HJ
        clear b0 hokx hu
        go_wp2_with fail
        refine HJ.out.mono ?_
        rintro r w2 ⟨rfl, hc2, hk2⟩
        have K2 := keep_trans B1.out.2.2.1 hk2
        have hown2 := keep_row hown K2 hlt (by decide)
        have hsz := K2.size
        clear HJ B1 p0 p1 p2 p3 p4 z0
        go_wp2_with (at_builtin; refine wpList_append_own _ rfl _ _ 22 rfl w.heap.size 64 i0 _ 5 56 Tryd.underlying22 Hi.out Hz0.out Hz1.out Hz2.out rfl (by decide) _ _ _ rfl (hown2.alloc _) ⟨w2.heap.size, 0, none⟩ 1 1 (cJob u.1) rfl rfl ?c1 ?c2 ?c3 ?c4 ?c5 ?_)
        case c1 => exact job_new w2 u.1 _
        case c2 => exact job_ones u.1
        case c3 => unfold maxLen; omega
        case c4 => omega
        case c5 => simp; omega
        · intro v3 w3 own3 hg3 _
          have hc3 := code_grown (code_alloc hc2 _) (hown2.alloc _) hg3 hlt (by decide)
          have hk3 := keep_grown (keep_trans (keep_trans hk K2) (keep_alloc b w2 _)) hg3 (fun k hk' => (hown2.lt k hk').1)
          clear hcode hk hc2 hk2 hown hown2 hg3 K2
          go_wp2
          go_roundw
          case rel => exact ⟨i + 1, u.2, ys ++ [u.1], by simp, by omega, by rw [cJobs_append, cJobs_one, List.length_append]; simpa [hyl] using own3, by simp [hyl], hc3, hk3, by omega, by omega, HP.out⟩
          case measure => simp [intOf]; omega
    · obtain rfl : i = n := by omega
      have hEnd : goS (jobS v) (padL zJob xs i) m1 = (ys, mi) := go_end (by rw [HPL.out]; exact HG.out)
      have HN := Lib.hid hEnd
      clear hEnd HG
      go_wp2
      go_ret
      exact ⟨_, rfl, by rw [HN.out]; exact hown, by rw [HN.out]; exact hcode, hk⟩
set_option maxRecDepth 100000 in
set_option maxHeartbeats 4000000 in
theorem codeNodes_is {b : Nat} {v : Int} {m : M} (xs : List NodeD) (ad : Option Addr) (cap most : Nat) (hlen : xs.length ≤ most) (hmost : most ≤ 40) (hok : ∀ x ∈ xs, okNode V8 v x) (hs : m.rest.size ≤ 1152921504606846976) (hg : m.gs.length ≤ 900000000) (w : World) (h : CodeAt b v m w) (hE : Env b w)
    (hx : ∀ w', Keep b w w' → NodesAt w' ad xs) (cb mb : Nat) (h1 : ObjAt cb #[.pointer (some ⟨b, 0, none⟩)] 78 w) (h2 : ObjAt mb #[.int .u64 (most : Int)] 74 w) :
    Calls Tryd.prog 50 #[.slice ad xs.length cap, .func (.func 94) #[] #[.pointer (some ⟨cb, 0, none⟩), .pointer (some ⟨mb, 0, none⟩)], .func (.func 51) #[.pointer (some ⟨b, 0, none⟩)] #[]] w fun r w' => ∃ x, r = .returned x ∧ w'.ownsRow w.heap.size 67 3 x (rowsS most zNode (nodeS v) xs m).1.length (cNodes (rowsS most zNode (nodeS v) xs m).1) ∧ CodeAt b v (rowsS most zNode (nodeS v) xs m).2 w' ∧ Keep b w w' := by
  have H0 := Lib.hid (count_is most xs.length cb mb hlen (by omega) hs (by omega) w h h1 h2)
  have hle := lim_le hlen m
  have hll := lim_lim (most := most) (n := xs.length) (by omega) m
  have eR : rowsS most zNode (nodeS v) xs m = goS (nodeS v) (padL zNode xs (limS most xs.length m).1) (limS most xs.length m).2 := rfl
  rw [eR]
  generalize limS most xs.length m = q at H0 hle hll ⊢
  obtain ⟨n, m1⟩ := q
  simp only at hle hll H0 ⊢
  have hpl := padL_length zNode xs n
  have hok2 : ∀ (i : Nat) (hi : i < (padL zNode xs n).length), okNode V8 v (padL zNode xs n)[i] := by
    intro i hi
    by_cases hil : i < xs.length
    · rw [padL_in _ _ _ _ hi hil]; exact hok _ (List.getElem_mem _)
    · rw [padL_out _ _ _ _ hi hil]; exact ok_zNode v
  have hlt := code_lt h
  have HX := Lib.hid hx
  have HE := Lib.hid hE
  have HOK := Lib.hid hok2
  have HPL := Lib.hid hpl
  obtain ⟨i0, qi, qz0, qz1, qz2⟩ := info_parts' Tryd.info_node
  have Hi := Lib.hid qi
  have Hz0 := Lib.hid qz0
  have Hz1 := Lib.hid qz1
  have Hz2 := Lib.hid qz2
  clear hx hE hok hok2 h h1 h2 qi qz0 qz1 qz2 eR hlen hpl
  go_enter Tryd.func50, Tryd.ntmps50
  go_wp2_with fail
  refine H0.out.mono ?_
  rintro r w1 ⟨rfl, hc1, hk1⟩
  clear H0
  go_wp2
  go_loopw [7, 14] (fun pv iv wr => ∃ (i : Nat) (mi : M) (ys : List NodeD), iv = .int .i64 (i : Int) ∧ i ≤ n ∧ wr.ownsRow w.heap.size 67 3 pv ys.length (cNodes ys) ∧ ys.length = i ∧ CodeAt b v mi wr ∧ Keep b w wr ∧ mi.gs.length ≤ 900000010 + 64 * i ∧ mi.rest.size ≤ 1152921504606846976 ∧ Hid (goS (nodeS v) (padL zNode xs n) m1 = (ys ++ (goS (nodeS v) ((padL zNode xs n).drop i) mi).1, (goS (nodeS v) ((padL zNode xs n).drop i) mi).2))) (fun _ iv _ => n - (intOf iv).toNat)
  case atStart => exact ⟨0, m1, [], rfl, Nat.zero_le _, World.ownsRow_nil _ _ _ _, rfl, hc1, hk1, by omega, by omega, by show _ = _; simp⟩
  case round =>
    clear hc1 hk1
    obtain ⟨i, mi, ys, rfl, hi, hown, hyl, hcode, hk, hgl, hrl, HG⟩ := hrel
    by_cases h : (i : Int) < (n : Int)
    · have hin : i < (padL zNode xs n).length := by rw [HPL.out]; omega
      have hpad := go_at hin HG.out
      have hokx := HOK.out i hin
      have b0 := boxSt_new (t := 67) #[.string ⟨#[]⟩, .int .i64 0, .string ⟨#[]⟩] hcode (env_keep HE.out hk) (by decide)
      have hwr := hk.size
      have hlm := lim_node hokx mi
      obtain ⟨u, hu⟩ : ∃ u, nodeS v (padL zNode xs n)[i] mi = u := ⟨_, rfl⟩
      rw [hu] at hpad hlm
      have HP := Lib.hid hpad
      clear hpad HG
      by_cases hil : (i : Int) < (xs.length : Int)
      · have hil' : i < xs.length := by omega
        obtain ⟨a, rfl, hal, k0, k1, k2⟩ := HX.out _ (keep_trans hk b0.2.2.1) i hil'
        obtain ⟨x, hxi⟩ : ∃ x, xs[i] = x := ⟨_, rfl⟩
        rw [padL_in _ _ _ _ hin hil', hxi] at hu hokx
        rw [hxi] at k0 k1 k2
        have b1 := boxSt_new (t := 67) #[.string x.name, .int .i64 x.room, .string x.zone] hcode (env_keep HE.out hk) (by decide)
        have HJ := codeNode_is x hokx hrl (by omega) _ b1.1 b1.2.2.2.1
        have y0 := objAt_free b0.2.1 0
        have y1 := objAt_free b0.2.1 1
        have y2 := objAt_free b0.2.1 2
        have o0 := objAt_cell b1.2.1 0 rfl
        have o1 := objAt_cell b1.2.1 1 rfl
        have o2 := objAt_cell b1.2.1 2 rfl
        have hbk : a.block < wr.heap.size + 1 := by simpa using hal
        have p0 := objAt_cell b0.2.1 0 rfl
        have p1 := objAt_cell b0.2.1 1 rfl
        have p2 := objAt_cell b0.2.1 2 rfl
        have z0 := objAt_lt b0.2.1
        have B1 := Lib.hid b1
        rw [hu] at HJ
        have HJ := Lib.hid HJ
        clear b0 b1 hokx hu hxi
        go_wp2_with fail
        refine HJ.out.mono ?_
        rintro r w2 ⟨rfl, hc2, hk2⟩
        have K2 := keep_trans B1.out.2.2.1 hk2
        have hown2 := keep_row hown K2 hlt (by decide)
        have hsz := K2.size
        clear HJ B1 p0 p1 p2 z0 k0 k1 k2 y0 o0 y1 o1 y2 o2 hal hbk
        go_wp2_with (at_builtin; refine wpList_append_own _ rfl _ _ 23 rfl w.heap.size 67 i0 _ 3 40 Tryd.underlying23 Hi.out Hz0.out Hz1.out Hz2.out rfl (by decide) _ _ _ rfl (hown2.alloc _) ⟨w2.heap.size, 0, none⟩ 1 1 (cNode u.1) rfl rfl ?c1 ?c2 ?c3 ?c4 ?c5 ?_)
        case c1 => exact node_new w2 u.1 _
        case c2 => exact node_ones u.1
        case c3 => unfold maxLen; omega
        case c4 => omega
        case c5 => simp; omega
        · intro v3 w3 own3 hg3 _
          have hc3 := code_grown (code_alloc hc2 _) (hown2.alloc _) hg3 hlt (by decide)
          have hk3 := keep_grown (keep_trans (keep_trans hk K2) (keep_alloc b w2 _)) hg3 (fun k hk' => (hown2.lt k hk').1)
          clear hcode hk hc2 hk2 hown hown2 hg3 K2
          go_wp2
          go_roundw
          case rel => exact ⟨i + 1, u.2, ys ++ [u.1], by simp, by omega, by rw [cNodes_append, cNodes_one, List.length_append]; simpa [hyl] using own3, by simp [hyl], hc3, hk3, by omega, by omega, HP.out⟩
          case measure => simp [intOf]; omega
      · have hil' : ¬ i < xs.length := by omega
        rw [padL_out _ _ _ _ hin hil'] at hu hokx
        have HJ := codeNode_is zNode hokx hrl (by omega) _ b0.1 b0.2.2.2.1
        have p0 := objAt_cell b0.2.1 0 rfl
        have p1 := objAt_cell b0.2.1 1 rfl
        have p2 := objAt_cell b0.2.1 2 rfl
        have z0 := objAt_lt b0.2.1
        have B1 := Lib.hid b0
        rw [hu] at HJ
        have HJ := Lib.hid HJ
        clear b0 hokx hu
        go_wp2_with fail
        refine HJ.out.mono ?_
        rintro r w2 ⟨rfl, hc2, hk2⟩
        have K2 := keep_trans B1.out.2.2.1 hk2
        have hown2 := keep_row hown K2 hlt (by decide)
        have hsz := K2.size
        clear HJ B1 p0 p1 p2 z0
        go_wp2_with (at_builtin; refine wpList_append_own _ rfl _ _ 23 rfl w.heap.size 67 i0 _ 3 40 Tryd.underlying23 Hi.out Hz0.out Hz1.out Hz2.out rfl (by decide) _ _ _ rfl (hown2.alloc _) ⟨w2.heap.size, 0, none⟩ 1 1 (cNode u.1) rfl rfl ?c1 ?c2 ?c3 ?c4 ?c5 ?_)
        case c1 => exact node_new w2 u.1 _
        case c2 => exact node_ones u.1
        case c3 => unfold maxLen; omega
        case c4 => omega
        case c5 => simp; omega
        · intro v3 w3 own3 hg3 _
          have hc3 := code_grown (code_alloc hc2 _) (hown2.alloc _) hg3 hlt (by decide)
          have hk3 := keep_grown (keep_trans (keep_trans hk K2) (keep_alloc b w2 _)) hg3 (fun k hk' => (hown2.lt k hk').1)
          clear hcode hk hc2 hk2 hown hown2 hg3 K2
          go_wp2
          go_roundw
          case rel => exact ⟨i + 1, u.2, ys ++ [u.1], by simp, by omega, by rw [cNodes_append, cNodes_one, List.length_append]; simpa [hyl] using own3, by simp [hyl], hc3, hk3, by omega, by omega, HP.out⟩
          case measure => simp [intOf]; omega
    · obtain rfl : i = n := by omega
      have hEnd : goS (nodeS v) (padL zNode xs i) m1 = (ys, mi) := go_end (by rw [HPL.out]; exact HG.out)
      have HN := Lib.hid hEnd
      clear hEnd HG
      go_wp2
      go_ret
      exact ⟨_, rfl, by rw [HN.out]; exact hown, by rw [HN.out]; exact hcode, hk⟩
set_option maxRecDepth 100000 in
set_option maxHeartbeats 4000000 in
theorem codeLeases_is {b : Nat} {v : Int} {m : M} (xs : List LeaseD) (ad : Option Addr) (cap most : Nat) (hlen : xs.length ≤ most) (hmost : most ≤ 40) (hok : ∀ x ∈ xs, okLease V8 x) (hs : m.rest.size ≤ 1152921504606846976) (hg : m.gs.length ≤ 900000000) (w : World) (h : CodeAt b v m w) (hE : Env b w)
    (hx : ∀ w', Keep b w w' → LeasesAt w' ad xs) (cb mb : Nat) (h1 : ObjAt cb #[.pointer (some ⟨b, 0, none⟩)] 78 w) (h2 : ObjAt mb #[.int .u64 (most : Int)] 74 w) :
    Calls Tryd.prog 52 #[.slice ad xs.length cap, .func (.func 94) #[] #[.pointer (some ⟨cb, 0, none⟩), .pointer (some ⟨mb, 0, none⟩)], .func (.func 53) #[.pointer (some ⟨b, 0, none⟩)] #[]] w fun r w' => ∃ x, r = .returned x ∧ w'.ownsRow w.heap.size 70 3 x (rowsS most zLease leaseS xs m).1.length (cLeases (rowsS most zLease leaseS xs m).1) ∧ CodeAt b v (rowsS most zLease leaseS xs m).2 w' ∧ Keep b w w' := by
  have H0 := Lib.hid (count_is most xs.length cb mb hlen (by omega) hs (by omega) w h h1 h2)
  have hle := lim_le hlen m
  have hll := lim_lim (most := most) (n := xs.length) (by omega) m
  have eR : rowsS most zLease leaseS xs m = goS leaseS (padL zLease xs (limS most xs.length m).1) (limS most xs.length m).2 := rfl
  rw [eR]
  generalize limS most xs.length m = q at H0 hle hll ⊢
  obtain ⟨n, m1⟩ := q
  simp only at hle hll H0 ⊢
  have hpl := padL_length zLease xs n
  have hok2 : ∀ (i : Nat) (hi : i < (padL zLease xs n).length), okLease V8 (padL zLease xs n)[i] := by
    intro i hi
    by_cases hil : i < xs.length
    · rw [padL_in _ _ _ _ hi hil]; exact hok _ (List.getElem_mem _)
    · rw [padL_out _ _ _ _ hi hil]; exact ok_zLease
  have hlt := code_lt h
  have HX := Lib.hid hx
  have HE := Lib.hid hE
  have HOK := Lib.hid hok2
  have HPL := Lib.hid hpl
  obtain ⟨i0, qi, qz0, qz1, qz2⟩ := info_parts' Tryd.info_lease
  have Hi := Lib.hid qi
  have Hz0 := Lib.hid qz0
  have Hz1 := Lib.hid qz1
  have Hz2 := Lib.hid qz2
  clear hx hE hok hok2 h h1 h2 qi qz0 qz1 qz2 eR hlen hpl
  go_enter Tryd.func52, Tryd.ntmps52
  go_wp2_with fail
  refine H0.out.mono ?_
  rintro r w1 ⟨rfl, hc1, hk1⟩
  clear H0
  go_wp2
  go_loopw [7, 14] (fun pv iv wr => ∃ (i : Nat) (mi : M) (ys : List LeaseD), iv = .int .i64 (i : Int) ∧ i ≤ n ∧ wr.ownsRow w.heap.size 70 3 pv ys.length (cLeases ys) ∧ ys.length = i ∧ CodeAt b v mi wr ∧ Keep b w wr ∧ mi.gs.length ≤ 900000010 + 64 * i ∧ mi.rest.size ≤ 1152921504606846976 ∧ Hid (goS leaseS (padL zLease xs n) m1 = (ys ++ (goS leaseS ((padL zLease xs n).drop i) mi).1, (goS leaseS ((padL zLease xs n).drop i) mi).2))) (fun _ iv _ => n - (intOf iv).toNat)
  case atStart => exact ⟨0, m1, [], rfl, Nat.zero_le _, World.ownsRow_nil _ _ _ _, rfl, hc1, hk1, by omega, by omega, by show _ = _; simp⟩
  case round =>
    clear hc1 hk1
    obtain ⟨i, mi, ys, rfl, hi, hown, hyl, hcode, hk, hgl, hrl, HG⟩ := hrel
    by_cases h : (i : Int) < (n : Int)
    · have hin : i < (padL zLease xs n).length := by rw [HPL.out]; omega
      have hpad := go_at hin HG.out
      have hokx := HOK.out i hin
      have b0 := boxSt_new (t := 70) #[.string ⟨#[]⟩, .string ⟨#[]⟩, .int .i64 0] hcode (env_keep HE.out hk) (by decide)
      have hwr := hk.size
      have hlm := lim_lease hokx mi
      obtain ⟨u, hu⟩ : ∃ u, leaseS (padL zLease xs n)[i] mi = u := ⟨_, rfl⟩
      rw [hu] at hpad hlm
      have HP := Lib.hid hpad
      clear hpad HG
      by_cases hil : (i : Int) < (xs.length : Int)
      · have hil' : i < xs.length := by omega
        obtain ⟨a, rfl, hal, k0, k1, k2⟩ := HX.out _ (keep_trans hk b0.2.2.1) i hil'
        obtain ⟨x, hxi⟩ : ∃ x, xs[i] = x := ⟨_, rfl⟩
        rw [padL_in _ _ _ _ hin hil', hxi] at hu hokx
        rw [hxi] at k0 k1 k2
        have b1 := boxSt_new (t := 70) #[.string x.job, .string x.node, .int .i64 x.til] hcode (env_keep HE.out hk) (by decide)
        have HJ := codeLease_is x hokx hrl (by omega) _ b1.1 b1.2.2.2.1
        have y0 := objAt_free b0.2.1 0
        have y1 := objAt_free b0.2.1 1
        have y2 := objAt_free b0.2.1 2
        have o0 := objAt_cell b1.2.1 0 rfl
        have o1 := objAt_cell b1.2.1 1 rfl
        have o2 := objAt_cell b1.2.1 2 rfl
        have hbk : a.block < wr.heap.size + 1 := by simpa using hal
        have p0 := objAt_cell b0.2.1 0 rfl
        have p1 := objAt_cell b0.2.1 1 rfl
        have p2 := objAt_cell b0.2.1 2 rfl
        have z0 := objAt_lt b0.2.1
        have B1 := Lib.hid b1
        rw [hu] at HJ
        have HJ := Lib.hid HJ
        clear b0 b1 hokx hu hxi
        go_wp2_with fail
        refine HJ.out.mono ?_
        rintro r w2 ⟨rfl, hc2, hk2⟩
        have K2 := keep_trans B1.out.2.2.1 hk2
        have hown2 := keep_row hown K2 hlt (by decide)
        have hsz := K2.size
        clear HJ B1 p0 p1 p2 z0 k0 k1 k2 y0 o0 y1 o1 y2 o2 hal hbk
        go_wp2_with (at_builtin; refine wpList_append_own _ rfl _ _ 24 rfl w.heap.size 70 i0 _ 3 40 Tryd.underlying24 Hi.out Hz0.out Hz1.out Hz2.out rfl (by decide) _ _ _ rfl (hown2.alloc _) ⟨w2.heap.size, 0, none⟩ 1 1 (cLease u.1) rfl rfl ?c1 ?c2 ?c3 ?c4 ?c5 ?_)
        case c1 => exact lease_new w2 u.1 _
        case c2 => exact lease_ones u.1
        case c3 => unfold maxLen; omega
        case c4 => omega
        case c5 => simp; omega
        · intro v3 w3 own3 hg3 _
          have hc3 := code_grown (code_alloc hc2 _) (hown2.alloc _) hg3 hlt (by decide)
          have hk3 := keep_grown (keep_trans (keep_trans hk K2) (keep_alloc b w2 _)) hg3 (fun k hk' => (hown2.lt k hk').1)
          clear hcode hk hc2 hk2 hown hown2 hg3 K2
          go_wp2
          go_roundw
          case rel => exact ⟨i + 1, u.2, ys ++ [u.1], by simp, by omega, by rw [cLeases_append, cLeases_one, List.length_append]; simpa [hyl] using own3, by simp [hyl], hc3, hk3, by omega, by omega, HP.out⟩
          case measure => simp [intOf]; omega
      · have hil' : ¬ i < xs.length := by omega
        rw [padL_out _ _ _ _ hin hil'] at hu hokx
        have HJ := codeLease_is zLease hokx hrl (by omega) _ b0.1 b0.2.2.2.1
        have p0 := objAt_cell b0.2.1 0 rfl
        have p1 := objAt_cell b0.2.1 1 rfl
        have p2 := objAt_cell b0.2.1 2 rfl
        have z0 := objAt_lt b0.2.1
        have B1 := Lib.hid b0
        rw [hu] at HJ
        have HJ := Lib.hid HJ
        clear b0 hokx hu
        go_wp2_with fail
        refine HJ.out.mono ?_
        rintro r w2 ⟨rfl, hc2, hk2⟩
        have K2 := keep_trans B1.out.2.2.1 hk2
        have hown2 := keep_row hown K2 hlt (by decide)
        have hsz := K2.size
        clear HJ B1 p0 p1 p2 z0
        go_wp2_with (at_builtin; refine wpList_append_own _ rfl _ _ 24 rfl w.heap.size 70 i0 _ 3 40 Tryd.underlying24 Hi.out Hz0.out Hz1.out Hz2.out rfl (by decide) _ _ _ rfl (hown2.alloc _) ⟨w2.heap.size, 0, none⟩ 1 1 (cLease u.1) rfl rfl ?c1 ?c2 ?c3 ?c4 ?c5 ?_)
        case c1 => exact lease_new w2 u.1 _
        case c2 => exact lease_ones u.1
        case c3 => unfold maxLen; omega
        case c4 => omega
        case c5 => simp; omega
        · intro v3 w3 own3 hg3 _
          have hc3 := code_grown (code_alloc hc2 _) (hown2.alloc _) hg3 hlt (by decide)
          have hk3 := keep_grown (keep_trans (keep_trans hk K2) (keep_alloc b w2 _)) hg3 (fun k hk' => (hown2.lt k hk').1)
          clear hcode hk hc2 hk2 hown hown2 hg3 K2
          go_wp2
          go_roundw
          case rel => exact ⟨i + 1, u.2, ys ++ [u.1], by simp, by omega, by rw [cLeases_append, cLeases_one, List.length_append]; simpa [hyl] using own3, by simp [hyl], hc3, hk3, by omega, by omega, HP.out⟩
          case measure => simp [intOf]; omega
    · obtain rfl : i = n := by omega
      have hEnd : goS leaseS (padL zLease xs i) m1 = (ys, mi) := go_end (by rw [HPL.out]; exact HG.out)
      have HN := Lib.hid hEnd
      clear hEnd HG
      go_wp2
      go_ret
      exact ⟨_, rfl, by rw [HN.out]; exact hown, by rw [HN.out]; exact hcode, hk⟩
end Go.Proofs.YtdbopgmckndmeaaDoor
