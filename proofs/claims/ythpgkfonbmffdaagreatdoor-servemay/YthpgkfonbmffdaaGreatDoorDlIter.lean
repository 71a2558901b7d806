/- All rows of a table, in the order of their keys: maps.Values, slices.Collect, the library's sort, delta.inOrder. -/
import Derived.Test.YthpgkfonbmffdaaGreatDoorDlSort
import Derived.Test.YthpgkfonbmffdaaGreatDoorDlShelf
import Derived.Test.YthpgkfonbmffdaaGreatDoorPkSt1
import Derived.Test.YthpgkfonbmffdaaGreatDoorPkWi2
import Derived.Test.YthpgkfonbmffdaaGreatDoorPkWi3
import Derived.RangeFuncNested
import Derived.RangeFuncBox
import Derived.RangeFuncLeaves
import Derived.Shelf.Abstract
import Derived.WalkKit
import Derived.OwnWalkIn
import Derived.TacticsInMore
import Derived.LoopNIn
import Derived.LoopIn
import Derived.Maps.AppendAt
import Derived.Sort.MapsRangeIn
import Derived.Shelf.SlSortCmp.WholeK
import Derived.Shelf.SlSortCmp.NoneTotal
namespace Go.Proofs.YthpgkfonbmffdaaGreatDoor
open Go.RowKit Go.Shelf

attribute [local go_sem] Oper.semAt_some


/-! ### Job -/
set_option maxRecDepth 100000 in
set_option maxHeartbeats 2000000 in
theorem valJob1_in (n : Nat) (hn : 1 ≤ n) (l Bm b nn : Nat) (D0 : DataW Value) (rows : List JobD) (hl : Asc (·.name) rows) (hD : ∀ s : ByteArray, Maps.has D0 (keyL s) = (tabF (·.name) jobV rows s).isSome ∧ ∀ z, D0.atKey (keyL s) (.held z) = .held ((tabF (·.name) jobV rows s).getD z)) (J Jx : List JobD → World → Prop)
    (hY : ∀ pre x W, J pre W → pre.length < Maps.size D0 → YieldAt Fence.wide (n - 1) Tryz.prog l #[.agg #[.string x.name, .int .i64 x.prio, .int .i64 x.need, .int .i64 x.tries, .string x.tag]] W fun e W' =>
      (e = .returned (.bool true) ∧ J (pre ++ [x]) W' ∧ KeepsWalks W W') ∨ (e = .returned (.bool false) ∧ Jx (pre ++ [x]) W'))
    (W : World) (hJ : AbidesFrom W.heap.size J) (hm : W.cell? ⟨Bm, 0, none⟩ = some (.map (some b))) (hown : W.ownsMap Tryz.prog 9 selfE b nn D0) (h0 : J [] W) :
    CallsIn Fence.wide n Tryz.prog 155 #[.func (.yield l) #[] #[], .pointer (some ⟨Bm, 0, none⟩)] W fun e W' => (∃ v, e = .returned v) ∧
      ((∃ xs : List JobD, xs.Perm rows ∧ J xs W') ∨ (∃ pre : List JobD, True ∧ Jx pre W')) := by
  refine callsIn_of_wp Tryz.func155 rfl trivial ?_ rfl
  simp only [Tryz.ntmps155, List.size_toArray, List.length_cons, List.length_nil, Nat.reduceAdd, Nat.reduceSub, Array.replicate_succ, Array.replicate_zero, List.push_toArray, List.append_toArray, List.nil_append, List.cons_append]
  gi_wp2_with (first
    | (gi_at_range; refine wpListIn_range_own _ rfl _ 95 rfl 9 38 strKeyed Tryz.underlying95 _ b nn _ rfl hown ?_; intro w0 hrg0 hg0 hs0)
    | gi_in)
  try go_frame
  gi_loopw [4] (fun _ wr => ∃ (left : Lit → Bool) (cnt : Nat) (xs : List JobD), wr.ranges Tryz.prog 9 selfE b W.heap.size nn D0 left cnt ∧ xs.length + cnt ≤ Maps.size D0 ∧ Collected D0 left (xs.map (bytesK (·.name))) ∧ (∀ x ∈ xs, x ∈ rows) ∧ J xs wr)
    (fun _ wr => wr.rangeLeft b W.heap.size)
  case atStart =>
    exact ⟨_, _, [], hrg0, by simp, Collected.start D0, by simp, hJ [] W w0 none h0 hg0 (fun r e => by cases e)⟩
  case round =>
    obtain ⟨left, cnt, xs, hrg, hcs, hC, hS, hJs⟩ := hrel
    gi_wp2_with (first
      | (gi_at_next; refine wpListIn_next_ranges _ rfl _ rfl 9 strKeyed selfE encStr id (fun key kl hk => by obtain ⟨x, hx, _⟩ := Maps.keyOf_str Tryz.underlying9 hk; exact ⟨x, hx⟩) (fun v _ _ => ⟨v, rfl⟩) b W.heap.size nn _ _ _ rfl hrg ?_ ?_)
      | gi_in)
    · intro hc0 hl0
      gi_wp2
      go_end0
      have hC' : Collected D0 (fun _ => false) (xs.map (bytesK (·.name))) := by
        have e : left = fun _ => false := funext hl0
        rw [e] at hC
        exact hC
      exact ⟨⟨_, rfl⟩, .inl ⟨xs, dtab_all hD hl hS hC', hJs⟩⟩
    · intro x c kl yd yp w2 cnt2 hkey hlk hv hat hrg2 hlt hg2 hs2 hen
      obtain ⟨x', ex, rfl, _⟩ := Maps.keyOf_str Tryz.underlying9 hkey
      obtain rfl : x = x' := encStr_inj ex
      simp only [selfE, Option.some.injEq, Prod.mk.injEq] at hv
      obtain ⟨rfl, rfl⟩ := hv
      obtain ⟨y, hy1, hy2, hy3⟩ := dtab_at hD hl hat
      subst hy2 hy3
      have hJ2 : J xs w2 := hJ _ wr w2 (some W.heap.size) hJs hg2 (fun r e => by cases e; exact ⟨Nat.le_refl _, hrg.iter_walk⟩)
      have hJ3 : J xs (w2.alloc (.cells #[.string y.name, .int .i64 y.prio, .int .i64 y.need, .int .i64 y.tries, .string y.tag] 38)) := hJ _ w2 _ none hJ2 (World.grownBy_alloc w2 _ none) (fun r e => by cases e)
      obtain ⟨fn, tmps, assign, body, hy, hR⟩ := hY xs y _ hJ3 (by omega)
      have hC2 : Collected D0 (fun z => left z && !z.sameKey (.string (bytesK (·.name) y))) ((xs ++ [y]).map (bytesK (·.name))) := by simpa using hC.step hlk hat
      have hS2 : ∀ p ∈ xs ++ [y], p ∈ rows := fun p hp => (List.mem_append.1 hp).elim (hS p) (fun e => by simp at e; subst e; exact hy1)
      have oB := objAt_new w2 #[.string y.name, .int .i64 y.prio, .int .i64 y.need, .int .i64 y.tries, .string y.tag] 38
      have c0 := objAt_cell oB 0 rfl
      have c1 := objAt_cell oB 1 rfl
      have c2 := objAt_cell oB 2 rfl
      have c3 := objAt_cell oB 3 rfl
      have c4 := objAt_cell oB 4 rfl
      have cl := objAt_lt oB
      clear hs2 oB
      unfold jobV at hen ⊢
      gi_wp2
      refine hR.mono ?_
      rintro e W3 (⟨rfl, hJ3, hk3⟩ | ⟨rfl, hJx3⟩)
      · gi_wp2
        have hrg3 := (hrg2.alloc (.cells #[.string y.name, .int .i64 y.prio, .int .i64 y.need, .int .i64 y.tries, .string y.tag] 38)).of_walks hk3
        go_roundw
        case rel => exact ⟨_, cnt2, xs ++ [y], hrg3, by simp; omega, hC2, hS2, hJ3⟩
        case measure => rw [hrg3.left_eq, hrg.left_eq]; exact hlt
      · gi_wp2
        refine bodyPost_ret (results_none rfl _ _ _) rfl ?_
        exact ⟨⟨_, rfl⟩, .inr ⟨xs ++ [y], trivial, hJx3⟩⟩
theorem valJob_stops (n : Nat) (hn : 1 ≤ n) (Bm b nn : Nat) (D0 : DataW Value) (rows : List JobD) (hl : Asc (·.name) rows) (hD : ∀ s : ByteArray, Maps.has D0 (keyL s) = (tabF (·.name) jobV rows s).isSome ∧ ∀ z, D0.atKey (keyL s) (.held z) = .held ((tabF (·.name) jobV rows s).getD z)) (w : World) (hBm : Bm < w.heap.size)
    (hm : w.cell? ⟨Bm, 0, none⟩ = some (.map (some b))) (hown : w.ownsMap Tryz.prog 9 selfE b nn D0) :
    SeqStopsK Fence.wide n Tryz.prog 155 #[.pointer (some ⟨Bm, 0, none⟩)] (fun x : JobD => #[.agg #[.string x.name, .int .i64 x.prio, .int .i64 x.need, .int .i64 x.tries, .string x.tag]]) KeepsWalks (fun xs => xs.Perm rows) (fun _ => True) (Maps.size D0) w := fun l J Jx W hW hJ _ hY h0 => by
  have hown' : W.ownsMap Tryz.prog 9 selfE b nn D0 := by
    have hbl := hown.lt
    obtain ⟨es, clock, hb, Ft, hs, hD⟩ := hown
    exact ⟨es, clock, (hW.block b hbl).trans hb, Ft, hs, hD⟩
  exact valJob1_in n hn l Bm b nn D0 rows hl hD J Jx hY W hJ ((hW.cell (p := ⟨Bm, 0, none⟩) hBm).trans hm) hown' h0
set_option maxRecDepth 100000 in
theorem valJob_is (mb : Option Nat) (w : World) :
    Calls Tryz.prog 123 #[.map mb] w fun e w' => e = .returned (.func (.func 155) #[] #[.pointer (some ⟨w.heap.size, 0, none⟩)]) ∧ w' = w.alloc (.cells #[.map mb] 95) := by
  go_enter Tryz.func123, Tryz.ntmps123
  go_wp2
  go_ret
  exact ⟨rfl, rfl⟩

set_option maxRecDepth 100000 in
set_option maxHeartbeats 4000000 in
theorem appJob_is (Bm b nn : Nat) (D0 : DataW Value) (rows : List JobD) (hl : Asc (·.name) rows) (hD : ∀ s : ByteArray, Maps.has D0 (keyL s) = (tabF (·.name) jobV rows s).isSome ∧ ∀ z, D0.atKey (keyL s) (.held z) = .held ((tabF (·.name) jobV rows s).getD z)) (hnn : nn ≤ 1000) (w : World) (hBm : Bm < w.heap.size)
    (hm : w.cell? ⟨Bm, 0, none⟩ = some (.map (some b))) (hown : w.ownsMap Tryz.prog 9 selfE b nn D0) :
    CallsIn Fence.wide 4 Tryz.prog 174 #[.slice none 0 0, .func (.func 155) #[] #[.pointer (some ⟨Bm, 0, none⟩)]] w fun e w' => ∃ (v : Value) (xs : List JobD), e = .returned v ∧ xs.Perm rows ∧ w'.ownsRow w.heap.size 38 5 v xs.length (cJobs xs) ∧ Below w.heap.size w w' := by
  obtain ⟨i0, hi, hz0, hz1, hz2⟩ := info_parts' Tryz.info_job
  have hsz := hown.size_le
  have hst := valJob_stops 3 (by omega) Bm b nn D0 rows hl hD w hBm hm hown
  refine callsIn_of_wp_marks Tryz.func174 rfl trivial ?_ rfl
  simp only [Tryz.ntmps174, List.size_toArray, List.length_cons, List.length_nil, Nat.reduceAdd, Nat.reduceSub, Array.replicate_succ, Array.replicate_zero, List.push_toArray, List.append_toArray, List.nil_append, List.cons_append]
  gi_wp2
  have bO := Boxed.new w 22 (.slice none 0 0)
  have hB0 : Below w.heap.size w (w.alloc (.cells #[.slice none 0 0] 22)) := below_one _ _
  refine wpIn_rangeFunc_ownH rfl (by omega) (gf := 155) (lb := #[.pointer (some ⟨Bm, 0, none⟩)]) rfl trivial (enters_of Tryz.func155 (by kernel_rfl) rfl)
    hst (fun h k => h.trans k) (fun W l o o' _ hl _ hw => KeepsWalks.putObj o' hl hw) hB0 (fun _ => rfl)
    (fun pre W => (∃ v, Boxed W w.heap.size 22 v ∧ W.ownsRow w.heap.size 38 5 v pre.length (cJobs pre) ∧ True) ∧ Below w.heap.size w W)
    (fun _ _ _ => False)
    (OwnFrom.and (Own.from (holdsRow_own w.heap.size w.heap.size 22 38 5 (fun pre => pre.length) (fun pre => cJobs pre) (fun _ _ => True)) _) (ownFrom_below (Nat.le_refl _) (by simp)))
    (fun _ _ _ _ _ hs _ _ => hs)
    ⟨⟨_, bO, World.ownsRow_nil _ _ _ _, trivial⟩, hB0⟩
    (fun x a' W => ∃ Bx, w.heap.size < Bx ∧ W.heap[Bx]? = some (.cells #[.string x.name, .int .i64 x.prio, .int .i64 x.need, .int .i64 x.tries, .string x.tag] 38 (0, 0)) ∧ a' = { tmps := #[.slice none 0 0, .func (.func 155) #[] #[.pointer (some ⟨Bm, 0, none⟩)], .pointer (some ⟨w.heap.size, 0, none⟩), undef, .slice none 0 0, .pointer (some ⟨Bx, 0, none⟩), .func (.func 155) #[] #[.pointer (some ⟨Bm, 0, none⟩)], .agg #[.string x.name, .int .i64 x.prio, .int .i64 x.need, .int .i64 x.tries, .string x.tag], undef, undef, undef, undef, undef], defers := [] })
    (fun x a' => fun _ X Y row hs hg hr => by
      obtain ⟨Bx, h1, h2, h3⟩ := hs
      exact ⟨Bx, h1, objAt_own h2 hg (fun r e => (hr r e).2), h3⟩) ?assign ?body ?done ?stop
  case assign =>
    rintro l pre x W K ⟨⟨v, hv, hrow, _⟩, hB⟩ hK
    have hsW := hB.size
    have hvl := hv.lt
    gi_wp2
    exact hK _ _ ((KeepsOthers.alloc _ _).from _) (KeepsWalks.alloc _ _) ⟨⟨v, hv.alloc _, hrow.alloc _, trivial⟩, hB.alloc hB.size _⟩ ⟨W.heap.size, hvl, World.alloc_heap_new W _, rfl⟩
  case body =>
    rintro l pre x a' W _ _ ⟨⟨v, hv, hrow, _⟩, hB⟩ ⟨Bx, hBx, oX, rfl⟩ hlt
    have hc := hv.cell
    have hsW := hB.size
    have oX' : ObjAt Bx #[.string x.name, .int .i64 x.prio, .int .i64 x.need, .int .i64 x.tries, .string x.tag] 38 W := oX
    have x_0 := objAt_cell oX' 0 rfl
    have x_1 := objAt_cell oX' 1 rfl
    have x_2 := objAt_cell oX' 2 rfl
    have x_3 := objAt_cell oX' 3 rfl
    have x_4 := objAt_cell oX' 4 rfl
    have xl := objAt_lt oX'
    obtain ⟨ad, cap, rfl⟩ := ownRow_slice hrow
    gi_wp2_with (gi_at_builtin; refine wpListIn_append_own _ rfl _ _ 22 rfl w.heap.size 38 i0 _ 5 56 Tryz.underlying22 hi hz0 hz1 hz2 rfl (by decide) _ _ _ rfl (hrow.alloc _) ⟨W.heap.size, 0, none⟩ 1 1 (cJob x) rfl rfl (job_new W x _) (job_ones x) (by unfold maxLen; omega) (by omega) (by simp; omega) ?_; intro v' w1 hown' hgrow _; obtain ⟨g', cap', rfl⟩ := ownRow_slice hown'; obtain ⟨hv1, hv2, hr2, hk2, hb2⟩ := hv.appended (by decide) hrow hB.size (Nat.le_refl _) hown' hgrow; have hc1 := hv1.cell; have hf1 := hv1.frozen)
    rw [← cJobs_one, ← cJobs_append] at hr2
    exact ⟨hk2.from _, hk2.walks, ⟨_, hv2, by rw [List.length_append]; exact hr2, trivial⟩, hB.trans hb2⟩
  case done =>
    rintro D ys W hD hS ⟨⟨v, hv, hrow, _⟩, hB⟩ hK
    have hc := hv.cell
    gi_wp2
    refine ⟨by simp, .inl ⟨_, _, rfl, run_takeDeferred hK, ?_⟩⟩
    exact ⟨_, results_tmp rfl _ _ _, v, ys, rfl, hS, ownsRow_putObj hrow _ hK rfl, hB.trans (belowK_b (w := w) (Nat.le_refl _) W D _ _ (by simp at hD; omega) hK rfl rfl)⟩
  case stop =>
    rintro D c pre W _ _ h _
    exact h.elim
set_option maxRecDepth 100000 in
theorem colJob_is (Bm b nn : Nat) (D0 : DataW Value) (rows : List JobD) (hl : Asc (·.name) rows) (hD : ∀ s : ByteArray, Maps.has D0 (keyL s) = (tabF (·.name) jobV rows s).isSome ∧ ∀ z, D0.atKey (keyL s) (.held z) = .held ((tabF (·.name) jobV rows s).getD z)) (hnn : nn ≤ 1000) (w : World) (hBm : Bm < w.heap.size)
    (hm : w.cell? ⟨Bm, 0, none⟩ = some (.map (some b))) (hown : w.ownsMap Tryz.prog 9 selfE b nn D0) :
    Calls Tryz.prog 153 #[.func (.func 155) #[] #[.pointer (some ⟨Bm, 0, none⟩)]] w fun e w' => ∃ (v : Value) (xs : List JobD), e = .returned v ∧ xs.Perm rows ∧ w'.ownsRow w.heap.size 38 5 v xs.length (cJobs xs) ∧ Below w.heap.size w w' := by
  have HA := Lib.hid (callsIn_wide.1 (appJob_is Bm b nn D0 rows hl hD hnn w hBm hm hown))
  clear hl hD hm hown
  go_enter Tryz.func153, Tryz.ntmps153
  go_wp2_with fail
  refine HA.out.mono ?_
  rintro e w1 ⟨v, xs, rfl, h1, h2, h3⟩
  go_wp2
  go_ret
  exact ⟨v, xs, rfl, h1, h2, h3⟩
set_option maxRecDepth 100000 in
theorem jobKey_eq (x : JobD) (w : World) : Calls Tryz.prog 51 #[.agg #[.string x.name, .int .i64 x.prio, .int .i64 x.need, .int .i64 x.tries, .string x.tag]] w fun e w' => e = .returned (.string x.name) ∧ w' = w.alloc (.cells #[.string x.name, .int .i64 x.prio, .int .i64 x.need, .int .i64 x.tries, .string x.tag] 38) := by
  go_enter Tryz.func51, Tryz.ntmps51
  go_wp2
  go_ret
  exact ⟨rfl, rfl⟩

/-! ### Node -/
set_option maxRecDepth 100000 in
set_option maxHeartbeats 2000000 in
theorem valNode1_in (n : Nat) (hn : 1 ≤ n) (l Bm b nn : Nat) (D0 : DataW Value) (rows : List NodeD) (hl : Asc (·.name) rows) (hD : ∀ s : ByteArray, Maps.has D0 (keyL s) = (tabF (·.name) nodeV rows s).isSome ∧ ∀ z, D0.atKey (keyL s) (.held z) = .held ((tabF (·.name) nodeV rows s).getD z)) (J Jx : List NodeD → World → Prop)
    (hY : ∀ pre x W, J pre W → pre.length < Maps.size D0 → YieldAt Fence.wide (n - 1) Tryz.prog l #[.agg #[.string x.name, .int .i64 x.room, .string x.zone]] W fun e W' =>
      (e = .returned (.bool true) ∧ J (pre ++ [x]) W' ∧ KeepsWalks W W') ∨ (e = .returned (.bool false) ∧ Jx (pre ++ [x]) W'))
    (W : World) (hJ : AbidesFrom W.heap.size J) (hm : W.cell? ⟨Bm, 0, none⟩ = some (.map (some b))) (hown : W.ownsMap Tryz.prog 9 selfE b nn D0) (h0 : J [] W) :
    CallsIn Fence.wide n Tryz.prog 159 #[.func (.yield l) #[] #[], .pointer (some ⟨Bm, 0, none⟩)] W fun e W' => (∃ v, e = .returned v) ∧
      ((∃ xs : List NodeD, xs.Perm rows ∧ J xs W') ∨ (∃ pre : List NodeD, True ∧ Jx pre W')) := by
  refine callsIn_of_wp Tryz.func159 rfl trivial ?_ rfl
  simp only [Tryz.ntmps159, List.size_toArray, List.length_cons, List.length_nil, Nat.reduceAdd, Nat.reduceSub, Array.replicate_succ, Array.replicate_zero, List.push_toArray, List.append_toArray, List.nil_append, List.cons_append]
  gi_wp2_with (first
    | (gi_at_range; refine wpListIn_range_own _ rfl _ 96 rfl 9 40 strKeyed Tryz.underlying96 _ b nn _ rfl hown ?_; intro w0 hrg0 hg0 hs0)
    | gi_in)
  try go_frame
  gi_loopw [4] (fun _ wr => ∃ (left : Lit → Bool) (cnt : Nat) (xs : List NodeD), wr.ranges Tryz.prog 9 selfE b W.heap.size nn D0 left cnt ∧ xs.length + cnt ≤ Maps.size D0 ∧ Collected D0 left (xs.map (bytesK (·.name))) ∧ (∀ x ∈ xs, x ∈ rows) ∧ J xs wr)
    (fun _ wr => wr.rangeLeft b W.heap.size)
  case atStart =>
    exact ⟨_, _, [], hrg0, by simp, Collected.start D0, by simp, hJ [] W w0 none h0 hg0 (fun r e => by cases e)⟩
  case round =>
    obtain ⟨left, cnt, xs, hrg, hcs, hC, hS, hJs⟩ := hrel
    gi_wp2_with (first
      | (gi_at_next; refine wpListIn_next_ranges _ rfl _ rfl 9 strKeyed selfE encStr id (fun key kl hk => by obtain ⟨x, hx, _⟩ := Maps.keyOf_str Tryz.underlying9 hk; exact ⟨x, hx⟩) (fun v _ _ => ⟨v, rfl⟩) b W.heap.size nn _ _ _ rfl hrg ?_ ?_)
      | gi_in)
    · intro hc0 hl0
      gi_wp2
      go_end0
      have hC' : Collected D0 (fun _ => false) (xs.map (bytesK (·.name))) := by
        have e : left = fun _ => false := funext hl0
        rw [e] at hC
        exact hC
      exact ⟨⟨_, rfl⟩, .inl ⟨xs, dtab_all hD hl hS hC', hJs⟩⟩
    · intro x c kl yd yp w2 cnt2 hkey hlk hv hat hrg2 hlt hg2 hs2 hen
      obtain ⟨x', ex, rfl, _⟩ := Maps.keyOf_str Tryz.underlying9 hkey
      obtain rfl : x = x' := encStr_inj ex
      simp only [selfE, Option.some.injEq, Prod.mk.injEq] at hv
      obtain ⟨rfl, rfl⟩ := hv
      obtain ⟨y, hy1, hy2, hy3⟩ := dtab_at hD hl hat
      subst hy2 hy3
      have hJ2 : J xs w2 := hJ _ wr w2 (some W.heap.size) hJs hg2 (fun r e => by cases e; exact ⟨Nat.le_refl _, hrg.iter_walk⟩)
      have hJ3 : J xs (w2.alloc (.cells #[.string y.name, .int .i64 y.room, .string y.zone] 40)) := hJ _ w2 _ none hJ2 (World.grownBy_alloc w2 _ none) (fun r e => by cases e)
      obtain ⟨fn, tmps, assign, body, hy, hR⟩ := hY xs y _ hJ3 (by omega)
      have hC2 : Collected D0 (fun z => left z && !z.sameKey (.string (bytesK (·.name) y))) ((xs ++ [y]).map (bytesK (·.name))) := by simpa using hC.step hlk hat
      have hS2 : ∀ p ∈ xs ++ [y], p ∈ rows := fun p hp => (List.mem_append.1 hp).elim (hS p) (fun e => by simp at e; subst e; exact hy1)
      have oB := objAt_new w2 #[.string y.name, .int .i64 y.room, .string y.zone] 40
      have c0 := objAt_cell oB 0 rfl
      have c1 := objAt_cell oB 1 rfl
      have c2 := objAt_cell oB 2 rfl
      have cl := objAt_lt oB
      clear hs2 oB
      unfold nodeV at hen ⊢
      gi_wp2
      refine hR.mono ?_
      rintro e W3 (⟨rfl, hJ3, hk3⟩ | ⟨rfl, hJx3⟩)
      · gi_wp2
        have hrg3 := (hrg2.alloc (.cells #[.string y.name, .int .i64 y.room, .string y.zone] 40)).of_walks hk3
        go_roundw
        case rel => exact ⟨_, cnt2, xs ++ [y], hrg3, by simp; omega, hC2, hS2, hJ3⟩
        case measure => rw [hrg3.left_eq, hrg.left_eq]; exact hlt
      · gi_wp2
        refine bodyPost_ret (results_none rfl _ _ _) rfl ?_
        exact ⟨⟨_, rfl⟩, .inr ⟨xs ++ [y], trivial, hJx3⟩⟩
theorem valNode_stops (n : Nat) (hn : 1 ≤ n) (Bm b nn : Nat) (D0 : DataW Value) (rows : List NodeD) (hl : Asc (·.name) rows) (hD : ∀ s : ByteArray, Maps.has D0 (keyL s) = (tabF (·.name) nodeV rows s).isSome ∧ ∀ z, D0.atKey (keyL s) (.held z) = .held ((tabF (·.name) nodeV rows s).getD z)) (w : World) (hBm : Bm < w.heap.size)
    (hm : w.cell? ⟨Bm, 0, none⟩ = some (.map (some b))) (hown : w.ownsMap Tryz.prog 9 selfE b nn D0) :
    SeqStopsK Fence.wide n Tryz.prog 159 #[.pointer (some ⟨Bm, 0, none⟩)] (fun x : NodeD => #[.agg #[.string x.name, .int .i64 x.room, .string x.zone]]) KeepsWalks (fun xs => xs.Perm rows) (fun _ => True) (Maps.size D0) w := fun l J Jx W hW hJ _ hY h0 => by
  have hown' : W.ownsMap Tryz.prog 9 selfE b nn D0 := by
    have hbl := hown.lt
    obtain ⟨es, clock, hb, Ft, hs, hD⟩ := hown
    exact ⟨es, clock, (hW.block b hbl).trans hb, Ft, hs, hD⟩
  exact valNode1_in n hn l Bm b nn D0 rows hl hD J Jx hY W hJ ((hW.cell (p := ⟨Bm, 0, none⟩) hBm).trans hm) hown' h0
set_option maxRecDepth 100000 in
theorem valNode_is (mb : Option Nat) (w : World) :
    Calls Tryz.prog 127 #[.map mb] w fun e w' => e = .returned (.func (.func 159) #[] #[.pointer (some ⟨w.heap.size, 0, none⟩)]) ∧ w' = w.alloc (.cells #[.map mb] 96) := by
  go_enter Tryz.func127, Tryz.ntmps127
  go_wp2
  go_ret
  exact ⟨rfl, rfl⟩

set_option maxRecDepth 100000 in
set_option maxHeartbeats 4000000 in
theorem appNode_is (Bm b nn : Nat) (D0 : DataW Value) (rows : List NodeD) (hl : Asc (·.name) rows) (hD : ∀ s : ByteArray, Maps.has D0 (keyL s) = (tabF (·.name) nodeV rows s).isSome ∧ ∀ z, D0.atKey (keyL s) (.held z) = .held ((tabF (·.name) nodeV rows s).getD z)) (hnn : nn ≤ 1000) (w : World) (hBm : Bm < w.heap.size)
    (hm : w.cell? ⟨Bm, 0, none⟩ = some (.map (some b))) (hown : w.ownsMap Tryz.prog 9 selfE b nn D0) :
    CallsIn Fence.wide 4 Tryz.prog 178 #[.slice none 0 0, .func (.func 159) #[] #[.pointer (some ⟨Bm, 0, none⟩)]] w fun e w' => ∃ (v : Value) (xs : List NodeD), e = .returned v ∧ xs.Perm rows ∧ w'.ownsRow w.heap.size 40 3 v xs.length (cNodes xs) ∧ Below w.heap.size w w' := by
  obtain ⟨i0, hi, hz0, hz1, hz2⟩ := info_parts' Tryz.info_node
  have hsz := hown.size_le
  have hst := valNode_stops 3 (by omega) Bm b nn D0 rows hl hD w hBm hm hown
  refine callsIn_of_wp_marks Tryz.func178 rfl trivial ?_ rfl
  simp only [Tryz.ntmps178, List.size_toArray, List.length_cons, List.length_nil, Nat.reduceAdd, Nat.reduceSub, Array.replicate_succ, Array.replicate_zero, List.push_toArray, List.append_toArray, List.nil_append, List.cons_append]
  gi_wp2
  have bO := Boxed.new w 23 (.slice none 0 0)
  have hB0 : Below w.heap.size w (w.alloc (.cells #[.slice none 0 0] 23)) := below_one _ _
  refine wpIn_rangeFunc_ownH rfl (by omega) (gf := 159) (lb := #[.pointer (some ⟨Bm, 0, none⟩)]) rfl trivial (enters_of Tryz.func159 (by kernel_rfl) rfl)
    hst (fun h k => h.trans k) (fun W l o o' _ hl _ hw => KeepsWalks.putObj o' hl hw) hB0 (fun _ => rfl)
    (fun pre W => (∃ v, Boxed W w.heap.size 23 v ∧ W.ownsRow w.heap.size 40 3 v pre.length (cNodes pre) ∧ True) ∧ Below w.heap.size w W)
    (fun _ _ _ => False)
    (OwnFrom.and (Own.from (holdsRow_own w.heap.size w.heap.size 23 40 3 (fun pre => pre.length) (fun pre => cNodes pre) (fun _ _ => True)) _) (ownFrom_below (Nat.le_refl _) (by simp)))
    (fun _ _ _ _ _ hs _ _ => hs)
    ⟨⟨_, bO, World.ownsRow_nil _ _ _ _, trivial⟩, hB0⟩
    (fun x a' W => ∃ Bx, w.heap.size < Bx ∧ W.heap[Bx]? = some (.cells #[.string x.name, .int .i64 x.room, .string x.zone] 40 (0, 0)) ∧ a' = { tmps := #[.slice none 0 0, .func (.func 159) #[] #[.pointer (some ⟨Bm, 0, none⟩)], .pointer (some ⟨w.heap.size, 0, none⟩), undef, .slice none 0 0, .pointer (some ⟨Bx, 0, none⟩), .func (.func 159) #[] #[.pointer (some ⟨Bm, 0, none⟩)], .agg #[.string x.name, .int .i64 x.room, .string x.zone], undef, undef, undef, undef, undef], defers := [] })
    (fun x a' => fun _ X Y row hs hg hr => by
      obtain ⟨Bx, h1, h2, h3⟩ := hs
      exact ⟨Bx, h1, objAt_own h2 hg (fun r e => (hr r e).2), h3⟩) ?assign ?body ?done ?stop
  case assign =>
    rintro l pre x W K ⟨⟨v, hv, hrow, _⟩, hB⟩ hK
    have hsW := hB.size
    have hvl := hv.lt
    gi_wp2
    exact hK _ _ ((KeepsOthers.alloc _ _).from _) (KeepsWalks.alloc _ _) ⟨⟨v, hv.alloc _, hrow.alloc _, trivial⟩, hB.alloc hB.size _⟩ ⟨W.heap.size, hvl, World.alloc_heap_new W _, rfl⟩
  case body =>
    rintro l pre x a' W _ _ ⟨⟨v, hv, hrow, _⟩, hB⟩ ⟨Bx, hBx, oX, rfl⟩ hlt
    have hc := hv.cell
    have hsW := hB.size
    have oX' : ObjAt Bx #[.string x.name, .int .i64 x.room, .string x.zone] 40 W := oX
    have x_0 := objAt_cell oX' 0 rfl
    have x_1 := objAt_cell oX' 1 rfl
    have x_2 := objAt_cell oX' 2 rfl
    have xl := objAt_lt oX'
    obtain ⟨ad, cap, rfl⟩ := ownRow_slice hrow
    gi_wp2_with (gi_at_builtin; refine wpListIn_append_own _ rfl _ _ 23 rfl w.heap.size 40 i0 _ 3 40 Tryz.underlying23 hi hz0 hz1 hz2 rfl (by decide) _ _ _ rfl (hrow.alloc _) ⟨W.heap.size, 0, none⟩ 1 1 (cNode x) rfl rfl (node_new W x _) (node_ones x) (by unfold maxLen; omega) (by omega) (by simp; omega) ?_; intro v' w1 hown' hgrow _; obtain ⟨g', cap', rfl⟩ := ownRow_slice hown'; obtain ⟨hv1, hv2, hr2, hk2, hb2⟩ := hv.appended (by decide) hrow hB.size (Nat.le_refl _) hown' hgrow; have hc1 := hv1.cell; have hf1 := hv1.frozen)
    rw [← cNodes_one, ← cNodes_append] at hr2
    exact ⟨hk2.from _, hk2.walks, ⟨_, hv2, by rw [List.length_append]; exact hr2, trivial⟩, hB.trans hb2⟩
  case done =>
    rintro D ys W hD hS ⟨⟨v, hv, hrow, _⟩, hB⟩ hK
    have hc := hv.cell
    gi_wp2
    refine ⟨by simp, .inl ⟨_, _, rfl, run_takeDeferred hK, ?_⟩⟩
    exact ⟨_, results_tmp rfl _ _ _, v, ys, rfl, hS, ownsRow_putObj hrow _ hK rfl, hB.trans (belowK_b (w := w) (Nat.le_refl _) W D _ _ (by simp at hD; omega) hK rfl rfl)⟩
  case stop =>
    rintro D c pre W _ _ h _
    exact h.elim
set_option maxRecDepth 100000 in
theorem colNode_is (Bm b nn : Nat) (D0 : DataW Value) (rows : List NodeD) (hl : Asc (·.name) rows) (hD : ∀ s : ByteArray, Maps.has D0 (keyL s) = (tabF (·.name) nodeV rows s).isSome ∧ ∀ z, D0.atKey (keyL s) (.held z) = .held ((tabF (·.name) nodeV rows s).getD z)) (hnn : nn ≤ 1000) (w : World) (hBm : Bm < w.heap.size)
    (hm : w.cell? ⟨Bm, 0, none⟩ = some (.map (some b))) (hown : w.ownsMap Tryz.prog 9 selfE b nn D0) :
    Calls Tryz.prog 157 #[.func (.func 159) #[] #[.pointer (some ⟨Bm, 0, none⟩)]] w fun e w' => ∃ (v : Value) (xs : List NodeD), e = .returned v ∧ xs.Perm rows ∧ w'.ownsRow w.heap.size 40 3 v xs.length (cNodes xs) ∧ Below w.heap.size w w' := by
  have HA := Lib.hid (callsIn_wide.1 (appNode_is Bm b nn D0 rows hl hD hnn w hBm hm hown))
  clear hl hD hm hown
  go_enter Tryz.func157, Tryz.ntmps157
  go_wp2_with fail
  refine HA.out.mono ?_
  rintro e w1 ⟨v, xs, rfl, h1, h2, h3⟩
  go_wp2
  go_ret
  exact ⟨v, xs, rfl, h1, h2, h3⟩
set_option maxRecDepth 100000 in
theorem nodeKey_eq (x : NodeD) (w : World) : Calls Tryz.prog 54 #[.agg #[.string x.name, .int .i64 x.room, .string x.zone]] w fun e w' => e = .returned (.string x.name) ∧ w' = w.alloc (.cells #[.string x.name, .int .i64 x.room, .string x.zone] 40) := by
  go_enter Tryz.func54, Tryz.ntmps54
  go_wp2
  go_ret
  exact ⟨rfl, rfl⟩

/-! ### Lease -/
set_option maxRecDepth 100000 in
set_option maxHeartbeats 2000000 in
theorem valLease1_in (n : Nat) (hn : 1 ≤ n) (l Bm b nn : Nat) (D0 : DataW Value) (rows : List LeaseD) (hl : Asc (·.job) rows) (hD : ∀ s : ByteArray, Maps.has D0 (keyL s) = (tabF (·.job) leaseV rows s).isSome ∧ ∀ z, D0.atKey (keyL s) (.held z) = .held ((tabF (·.job) leaseV rows s).getD z)) (J Jx : List LeaseD → World → Prop)
    (hY : ∀ pre x W, J pre W → pre.length < Maps.size D0 → YieldAt Fence.wide (n - 1) Tryz.prog l #[.agg #[.string x.job, .string x.node, .int .i64 x.til]] W fun e W' =>
      (e = .returned (.bool true) ∧ J (pre ++ [x]) W' ∧ KeepsWalks W W') ∨ (e = .returned (.bool false) ∧ Jx (pre ++ [x]) W'))
    (W : World) (hJ : AbidesFrom W.heap.size J) (hm : W.cell? ⟨Bm, 0, none⟩ = some (.map (some b))) (hown : W.ownsMap Tryz.prog 9 selfE b nn D0) (h0 : J [] W) :
    CallsIn Fence.wide n Tryz.prog 162 #[.func (.yield l) #[] #[], .pointer (some ⟨Bm, 0, none⟩)] W fun e W' => (∃ v, e = .returned v) ∧
      ((∃ xs : List LeaseD, xs.Perm rows ∧ J xs W') ∨ (∃ pre : List LeaseD, True ∧ Jx pre W')) := by
  refine callsIn_of_wp Tryz.func162 rfl trivial ?_ rfl
  simp only [Tryz.ntmps162, List.size_toArray, List.length_cons, List.length_nil, Nat.reduceAdd, Nat.reduceSub, Array.replicate_succ, Array.replicate_zero, List.push_toArray, List.append_toArray, List.nil_append, List.cons_append]
  gi_wp2_with (first
    | (gi_at_range; refine wpListIn_range_own _ rfl _ 144 rfl 9 42 strKeyed Tryz.underlying144 _ b nn _ rfl hown ?_; intro w0 hrg0 hg0 hs0)
    | gi_in)
  try go_frame
  gi_loopw [4] (fun _ wr => ∃ (left : Lit → Bool) (cnt : Nat) (xs : List LeaseD), wr.ranges Tryz.prog 9 selfE b W.heap.size nn D0 left cnt ∧ xs.length + cnt ≤ Maps.size D0 ∧ Collected D0 left (xs.map (bytesK (·.job))) ∧ (∀ x ∈ xs, x ∈ rows) ∧ J xs wr)
    (fun _ wr => wr.rangeLeft b W.heap.size)
  case atStart =>
    exact ⟨_, _, [], hrg0, by simp, Collected.start D0, by simp, hJ [] W w0 none h0 hg0 (fun r e => by cases e)⟩
  case round =>
    obtain ⟨left, cnt, xs, hrg, hcs, hC, hS, hJs⟩ := hrel
    gi_wp2_with (first
      | (gi_at_next; refine wpListIn_next_ranges _ rfl _ rfl 9 strKeyed selfE encStr id (fun key kl hk => by obtain ⟨x, hx, _⟩ := Maps.keyOf_str Tryz.underlying9 hk; exact ⟨x, hx⟩) (fun v _ _ => ⟨v, rfl⟩) b W.heap.size nn _ _ _ rfl hrg ?_ ?_)
      | gi_in)
    · intro hc0 hl0
      gi_wp2
      go_end0
      have hC' : Collected D0 (fun _ => false) (xs.map (bytesK (·.job))) := by
        have e : left = fun _ => false := funext hl0
        rw [e] at hC
        exact hC
      exact ⟨⟨_, rfl⟩, .inl ⟨xs, dtab_all hD hl hS hC', hJs⟩⟩
    · intro x c kl yd yp w2 cnt2 hkey hlk hv hat hrg2 hlt hg2 hs2 hen
      obtain ⟨x', ex, rfl, _⟩ := Maps.keyOf_str Tryz.underlying9 hkey
      obtain rfl : x = x' := encStr_inj ex
      simp only [selfE, Option.some.injEq, Prod.mk.injEq] at hv
      obtain ⟨rfl, rfl⟩ := hv
      obtain ⟨y, hy1, hy2, hy3⟩ := dtab_at hD hl hat
      subst hy2 hy3
      have hJ2 : J xs w2 := hJ _ wr w2 (some W.heap.size) hJs hg2 (fun r e => by cases e; exact ⟨Nat.le_refl _, hrg.iter_walk⟩)
      have hJ3 : J xs (w2.alloc (.cells #[.string y.job, .string y.node, .int .i64 y.til] 42)) := hJ _ w2 _ none hJ2 (World.grownBy_alloc w2 _ none) (fun r e => by cases e)
      obtain ⟨fn, tmps, assign, body, hy, hR⟩ := hY xs y _ hJ3 (by omega)
      have hC2 : Collected D0 (fun z => left z && !z.sameKey (.string (bytesK (·.job) y))) ((xs ++ [y]).map (bytesK (·.job))) := by simpa using hC.step hlk hat
      have hS2 : ∀ p ∈ xs ++ [y], p ∈ rows := fun p hp => (List.mem_append.1 hp).elim (hS p) (fun e => by simp at e; subst e; exact hy1)
      have oB := objAt_new w2 #[.string y.job, .string y.node, .int .i64 y.til] 42
      have c0 := objAt_cell oB 0 rfl
      have c1 := objAt_cell oB 1 rfl
      have c2 := objAt_cell oB 2 rfl
      have cl := objAt_lt oB
      clear hs2 oB
      unfold leaseV at hen ⊢
      gi_wp2
      refine hR.mono ?_
      rintro e W3 (⟨rfl, hJ3, hk3⟩ | ⟨rfl, hJx3⟩)
      · gi_wp2
        have hrg3 := (hrg2.alloc (.cells #[.string y.job, .string y.node, .int .i64 y.til] 42)).of_walks hk3
        go_roundw
        case rel => exact ⟨_, cnt2, xs ++ [y], hrg3, by simp; omega, hC2, hS2, hJ3⟩
        case measure => rw [hrg3.left_eq, hrg.left_eq]; exact hlt
      · gi_wp2
        refine bodyPost_ret (results_none rfl _ _ _) rfl ?_
        exact ⟨⟨_, rfl⟩, .inr ⟨xs ++ [y], trivial, hJx3⟩⟩
theorem valLease_stops (n : Nat) (hn : 1 ≤ n) (Bm b nn : Nat) (D0 : DataW Value) (rows : List LeaseD) (hl : Asc (·.job) rows) (hD : ∀ s : ByteArray, Maps.has D0 (keyL s) = (tabF (·.job) leaseV rows s).isSome ∧ ∀ z, D0.atKey (keyL s) (.held z) = .held ((tabF (·.job) leaseV rows s).getD z)) (w : World) (hBm : Bm < w.heap.size)
    (hm : w.cell? ⟨Bm, 0, none⟩ = some (.map (some b))) (hown : w.ownsMap Tryz.prog 9 selfE b nn D0) :
    SeqStopsK Fence.wide n Tryz.prog 162 #[.pointer (some ⟨Bm, 0, none⟩)] (fun x : LeaseD => #[.agg #[.string x.job, .string x.node, .int .i64 x.til]]) KeepsWalks (fun xs => xs.Perm rows) (fun _ => True) (Maps.size D0) w := fun l J Jx W hW hJ _ hY h0 => by
  have hown' : W.ownsMap Tryz.prog 9 selfE b nn D0 := by
    have hbl := hown.lt
    obtain ⟨es, clock, hb, Ft, hs, hD⟩ := hown
    exact ⟨es, clock, (hW.block b hbl).trans hb, Ft, hs, hD⟩
  exact valLease1_in n hn l Bm b nn D0 rows hl hD J Jx hY W hJ ((hW.cell (p := ⟨Bm, 0, none⟩) hBm).trans hm) hown' h0
set_option maxRecDepth 100000 in
theorem valLease_is (mb : Option Nat) (w : World) :
    Calls Tryz.prog 130 #[.map mb] w fun e w' => e = .returned (.func (.func 162) #[] #[.pointer (some ⟨w.heap.size, 0, none⟩)]) ∧ w' = w.alloc (.cells #[.map mb] 144) := by
  go_enter Tryz.func130, Tryz.ntmps130
  go_wp2
  go_ret
  exact ⟨rfl, rfl⟩

set_option maxRecDepth 100000 in
set_option maxHeartbeats 4000000 in
theorem appLease_is (Bm b nn : Nat) (D0 : DataW Value) (rows : List LeaseD) (hl : Asc (·.job) rows) (hD : ∀ s : ByteArray, Maps.has D0 (keyL s) = (tabF (·.job) leaseV rows s).isSome ∧ ∀ z, D0.atKey (keyL s) (.held z) = .held ((tabF (·.job) leaseV rows s).getD z)) (hnn : nn ≤ 1000) (w : World) (hBm : Bm < w.heap.size)
    (hm : w.cell? ⟨Bm, 0, none⟩ = some (.map (some b))) (hown : w.ownsMap Tryz.prog 9 selfE b nn D0) :
    CallsIn Fence.wide 4 Tryz.prog 180 #[.slice none 0 0, .func (.func 162) #[] #[.pointer (some ⟨Bm, 0, none⟩)]] w fun e w' => ∃ (v : Value) (xs : List LeaseD), e = .returned v ∧ xs.Perm rows ∧ w'.ownsRow w.heap.size 42 3 v xs.length (cLeases xs) ∧ Below w.heap.size w w' := by
  obtain ⟨i0, hi, hz0, hz1, hz2⟩ := info_parts' Tryz.info_lease
  have hsz := hown.size_le
  have hst := valLease_stops 3 (by omega) Bm b nn D0 rows hl hD w hBm hm hown
  refine callsIn_of_wp_marks Tryz.func180 rfl trivial ?_ rfl
  simp only [Tryz.ntmps180, List.size_toArray, List.length_cons, List.length_nil, Nat.reduceAdd, Nat.reduceSub, Array.replicate_succ, Array.replicate_zero, List.push_toArray, List.append_toArray, List.nil_append, List.cons_append]
  gi_wp2
  have bO := Boxed.new w 24 (.slice none 0 0)
  have hB0 : Below w.heap.size w (w.alloc (.cells #[.slice none 0 0] 24)) := below_one _ _
  refine wpIn_rangeFunc_ownH rfl (by omega) (gf := 162) (lb := #[.pointer (some ⟨Bm, 0, none⟩)]) rfl trivial (enters_of Tryz.func162 (by kernel_rfl) rfl)
    hst (fun h k => h.trans k) (fun W l o o' _ hl _ hw => KeepsWalks.putObj o' hl hw) hB0 (fun _ => rfl)
    (fun pre W => (∃ v, Boxed W w.heap.size 24 v ∧ W.ownsRow w.heap.size 42 3 v pre.length (cLeases pre) ∧ True) ∧ Below w.heap.size w W)
    (fun _ _ _ => False)
    (OwnFrom.and (Own.from (holdsRow_own w.heap.size w.heap.size 24 42 3 (fun pre => pre.length) (fun pre => cLeases pre) (fun _ _ => True)) _) (ownFrom_below (Nat.le_refl _) (by simp)))
    (fun _ _ _ _ _ hs _ _ => hs)
    ⟨⟨_, bO, World.ownsRow_nil _ _ _ _, trivial⟩, hB0⟩
    (fun x a' W => ∃ Bx, w.heap.size < Bx ∧ W.heap[Bx]? = some (.cells #[.string x.job, .string x.node, .int .i64 x.til] 42 (0, 0)) ∧ a' = { tmps := #[.slice none 0 0, .func (.func 162) #[] #[.pointer (some ⟨Bm, 0, none⟩)], .pointer (some ⟨w.heap.size, 0, none⟩), undef, .slice none 0 0, .pointer (some ⟨Bx, 0, none⟩), .func (.func 162) #[] #[.pointer (some ⟨Bm, 0, none⟩)], .agg #[.string x.job, .string x.node, .int .i64 x.til], undef, undef, undef, undef, undef], defers := [] })
    (fun x a' => fun _ X Y row hs hg hr => by
      obtain ⟨Bx, h1, h2, h3⟩ := hs
      exact ⟨Bx, h1, objAt_own h2 hg (fun r e => (hr r e).2), h3⟩) ?assign ?body ?done ?stop
  case assign =>
    rintro l pre x W K ⟨⟨v, hv, hrow, _⟩, hB⟩ hK
    have hsW := hB.size
    have hvl := hv.lt
    gi_wp2
    exact hK _ _ ((KeepsOthers.alloc _ _).from _) (KeepsWalks.alloc _ _) ⟨⟨v, hv.alloc _, hrow.alloc _, trivial⟩, hB.alloc hB.size _⟩ ⟨W.heap.size, hvl, World.alloc_heap_new W _, rfl⟩
  case body =>
    rintro l pre x a' W _ _ ⟨⟨v, hv, hrow, _⟩, hB⟩ ⟨Bx, hBx, oX, rfl⟩ hlt
    have hc := hv.cell
    have hsW := hB.size
    have oX' : ObjAt Bx #[.string x.job, .string x.node, .int .i64 x.til] 42 W := oX
    have x_0 := objAt_cell oX' 0 rfl
    have x_1 := objAt_cell oX' 1 rfl
    have x_2 := objAt_cell oX' 2 rfl
    have xl := objAt_lt oX'
    obtain ⟨ad, cap, rfl⟩ := ownRow_slice hrow
    gi_wp2_with (gi_at_builtin; refine wpListIn_append_own _ rfl _ _ 24 rfl w.heap.size 42 i0 _ 3 40 Tryz.underlying24 hi hz0 hz1 hz2 rfl (by decide) _ _ _ rfl (hrow.alloc _) ⟨W.heap.size, 0, none⟩ 1 1 (cLease x) rfl rfl (lease_new W x _) (lease_ones x) (by unfold maxLen; omega) (by omega) (by simp; omega) ?_; intro v' w1 hown' hgrow _; obtain ⟨g', cap', rfl⟩ := ownRow_slice hown'; obtain ⟨hv1, hv2, hr2, hk2, hb2⟩ := hv.appended (by decide) hrow hB.size (Nat.le_refl _) hown' hgrow; have hc1 := hv1.cell; have hf1 := hv1.frozen)
    rw [← cLeases_one, ← cLeases_append] at hr2
    exact ⟨hk2.from _, hk2.walks, ⟨_, hv2, by rw [List.length_append]; exact hr2, trivial⟩, hB.trans hb2⟩
  case done =>
    rintro D ys W hD hS ⟨⟨v, hv, hrow, _⟩, hB⟩ hK
    have hc := hv.cell
    gi_wp2
    refine ⟨by simp, .inl ⟨_, _, rfl, run_takeDeferred hK, ?_⟩⟩
    exact ⟨_, results_tmp rfl _ _ _, v, ys, rfl, hS, ownsRow_putObj hrow _ hK rfl, hB.trans (belowK_b (w := w) (Nat.le_refl _) W D _ _ (by simp at hD; omega) hK rfl rfl)⟩
  case stop =>
    rintro D c pre W _ _ h _
    exact h.elim
set_option maxRecDepth 100000 in
theorem colLease_is (Bm b nn : Nat) (D0 : DataW Value) (rows : List LeaseD) (hl : Asc (·.job) rows) (hD : ∀ s : ByteArray, Maps.has D0 (keyL s) = (tabF (·.job) leaseV rows s).isSome ∧ ∀ z, D0.atKey (keyL s) (.held z) = .held ((tabF (·.job) leaseV rows s).getD z)) (hnn : nn ≤ 1000) (w : World) (hBm : Bm < w.heap.size)
    (hm : w.cell? ⟨Bm, 0, none⟩ = some (.map (some b))) (hown : w.ownsMap Tryz.prog 9 selfE b nn D0) :
    Calls Tryz.prog 160 #[.func (.func 162) #[] #[.pointer (some ⟨Bm, 0, none⟩)]] w fun e w' => ∃ (v : Value) (xs : List LeaseD), e = .returned v ∧ xs.Perm rows ∧ w'.ownsRow w.heap.size 42 3 v xs.length (cLeases xs) ∧ Below w.heap.size w w' := by
  have HA := Lib.hid (callsIn_wide.1 (appLease_is Bm b nn D0 rows hl hD hnn w hBm hm hown))
  clear hl hD hm hown
  go_enter Tryz.func160, Tryz.ntmps160
  go_wp2_with fail
  refine HA.out.mono ?_
  rintro e w1 ⟨v, xs, rfl, h1, h2, h3⟩
  go_wp2
  go_ret
  exact ⟨v, xs, rfl, h1, h2, h3⟩
set_option maxRecDepth 100000 in
theorem leaseKey_eq (x : LeaseD) (w : World) : Calls Tryz.prog 58 #[.agg #[.string x.job, .string x.node, .int .i64 x.til]] w fun e w' => e = .returned (.string x.job) ∧ w' = w.alloc (.cells #[.string x.job, .string x.node, .int .i64 x.til] 42) := by
  go_enter Tryz.func58, Tryz.ntmps58
  go_wp2
  go_ret
  exact ⟨rfl, rfl⟩
end Go.Proofs.YthpgkfonbmffdaaGreatDoor
