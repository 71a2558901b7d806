/- strings.Join with a comma, over few strings. -/
import Derived.Test.YthbgaphidojneaaGreatDoorJsQuote
import Derived.Deep.QuietTactic
import Derived.BigQuiet
namespace Go.Proofs.YthbgaphidojneaaGreatDoor
open Go.RowKit

set_option maxRecDepth 100000 in
set_option maxHeartbeats 2000000 in
theorem bdGrow_in (b n : Nat) (w : World) (hbk : w.heap[b]? = some (.cells #[.pointer (some ⟨b, 0, none⟩), .slice none 0 0] 131 (0, 0))) (hn : n ≤ 281474976710656) :
    Calls Tryz.prog 123 #[.pointer (some ⟨b, 0, none⟩), .int .i64 (n : Int)] w fun e w' => e = .returned (.tuple #[]) ∧ BdAt b [] w' ∧ Below b w w' := by
  have hlt : b < w.heap.size := (Array.getElem?_eq_some_iff.1 hbk).1
  obtain ⟨cs, hrun, hle, hmax⟩ := Lib.run_makeNoZero (P := Tryz.prog) w.drew #[3] 82 5 Tryz.underlying82 n hn
  have hw : IntKind.i64.wrap (IntKind.i64.wrap 0 + (n : Int)) = n := by
    rw [IntKind.wrap_i64, IntKind.wrap_i64]
    omega
  have hcall : ∀ x : Int, x = n → (callFunc 153 #[.int .i64 x]).run Tryz.prog w.drew = .ok (.value (.slice (some ⟨w.drew.heap.size, 0, none⟩) n cs.size)) (w.drew.drew.drew.alloc (.cells cs 5)) := by
    rintro x rfl
    rw [run_callFunc_extern Tryz.func153 (by kernel_rfl) (by kernel_rfl) (by kernel_rfl) (e := Extern.BytealgMakeNoZero.makeNoZero #[3] #[82]) (by kernel_rfl), hrun]
    rfl
  have hcall1 := hcall _ hw
  have hcall2 := hcall _ rfl
  have c1 : w.drew.cell? ⟨b, 1, none⟩ = some (.slice none 0 0) := by
    have : w.drew.heap[b]? = _ := hbk
    rw [Lib.cell_of_heap this]; rfl
  have c2 : (w.alloc (.cells cs 5)).cell? ⟨b, 1, none⟩ = some (.slice none 0 0) := by
    have : (w.alloc (.cells cs 5)).heap[b]? = _ := (Lib.alloc_old w _ b hlt).trans hbk
    rw [Lib.cell_of_heap this]; rfl
  have f2 : (w.alloc (.cells cs 5)).frozen? ⟨b, 1, none⟩ = false := Lib.frozen_of_heap ((Lib.alloc_old w _ b hlt).trans hbk) 1
  have hcopy : ∀ W : World, (Builtin.copy_ #[82, 82] 3 #[.slice (some ⟨w.heap.size, 0, none⟩) 0 cs.size, .slice none 0 0]).run Tryz.prog W = .ok (goInt 0) W :=
    fun W => run_copy_none W 82 82 3 5 _ _ 0 cs.size 0 0 Tryz.underlying82 exBS.sizeByte rfl
  have hfin := Lib.grown_fresh (T := 131) (e := 5) (cs := cs) (Nat.le_refl b) hbk (Nat.le_of_lt hlt) (hmax (by unfold maxLen; omega)) exBS.neB5
  rw [World.setCell_alloc_past (.cells cs 5) b 1 _ hlt] at hfin
  clear hw hcall
  go_enter Tryz.func123, Tryz.ntmps123
  go_wp2
  go_region
  all_goals (go_wp2; go_end0; exact ⟨rfl, Lib.IsBuilderF.of (.inr hfin.1), hfin.2⟩)
set_option maxRecDepth 100000 in
set_option maxHeartbeats 2000000 in
theorem bdGrow_is (n : Nat) (w : World) (hn : n ≤ 281474976710656) :
    Calls Tryz.prog 94 #[.pointer (some ⟨w.heap.size, 0, none⟩), .int .i64 (n : Int)] (w.alloc (.cells #[.pointer none, .slice none 0 0] 131)) fun e w' => e = .returned (.tuple #[]) ∧ BdSt [] w w' := by
  obtain ⟨b, hb⟩ : ∃ b, w.heap.size = b := ⟨_, rfl⟩
  obtain ⟨W, hW⟩ : ∃ W, w.alloc (.cells #[.pointer none, .slice none 0 0] 131) = W := ⟨_, rfl⟩
  have hbk : W.heap[b]? = some (.cells #[.pointer none, .slice none 0 0] 131 (0, 0)) := by rw [← hW, ← hb]; exact heap_alloc_new w _
  have bW : Below b w W := by rw [← hW, ← hb]; exact (Below.refl _ _).alloc (Nat.le_refl _) _
  have hlt : b < W.heap.size := (Array.getElem?_eq_some_iff.1 hbk).1
  have H0 := Lib.hid (bdCheck_new b W (by rw [Lib.cell_of_heap hbk]; rfl) (by simp [World.shape?, hbk]) (Lib.frozen_of_heap hbk 0))
  obtain ⟨W1, hW1⟩ : ∃ W1, W.setCell ⟨b, 0, none⟩ (.pointer (some ⟨b, 0, none⟩)) = W1 := ⟨_, rfl⟩
  have hbk1 : W1.heap[b]? = some (.cells #[.pointer (some ⟨b, 0, none⟩), .slice none 0 0] 131 (0, 0)) := by
    rw [← hW1]; simp [World.setCell, Array.getElem?_modify, hbk]
  have b1 : Below b W W1 := by rw [← hW1]; exact (Below.refl b W).setCell (p := ⟨b, 0, none⟩) (Nat.le_refl _) _
  have cz : W1.cell? ⟨b, 1, none⟩ = some (.slice none 0 0) := by rw [Lib.cell_of_heap hbk1]; rfl
  have cd : W1.drew.cell? ⟨b, 1, none⟩ = some (.slice none 0 0) := cz
  rw [hW1] at H0
  rw [hW, hb]
  unfold BdSt
  rw [hb]
  have HG : Hid (∀ m, Calls Tryz.prog 123 #[.pointer (some ⟨b, 0, none⟩), .int .i64 (n : Int)] (W1.drewN m) fun e w' => e = .returned (.tuple #[]) ∧ BdAt b [] w' ∧ Below b (W1.drewN m) w') := fun m => bdGrow_in b n _ (by
    have : (W1.drewN m).heap = W1.heap := by
      clear cz cd
      induction m with
      | zero => rfl
      | succ m ih => exact ih
    rw [this]; exact hbk1) hn
  have HF : Hid (∀ m, BdAt b [] (W1.drewN m) ∧ Below b w (W1.drewN m)) := fun m => by
    have hd : Below b W1 (W1.drewN m) := by
      clear cz cd
      induction m with
      | zero => exact Below.refl _ _
      | succ m ih => exact ih.drew
    have hh : (W1.drewN m).heap = W1.heap := by
      clear cz cd hd
      induction m with
      | zero => rfl
      | succ m ih => exact ih
    exact ⟨.inr ⟨Nat.le_refl _, .slice none 0 0, by rw [hh]; exact hbk1, World.ownsRowF_of (World.ownsRow_nil _ _ _ _), by simp [Value.ownBlock]⟩, (bW.trans b1).trans hd⟩
  clear hb hW hbk bW hlt hW1 hbk1 b1
  go_enter Tryz.func94, Tryz.ntmps94
  go_wp2_with fail
  refine H0.out.mono ?_
  rintro e w1 ⟨rfl, rfl⟩
  by_cases h0 : 0 < n
  · have h0' : (0 : Int) < (n : Int) := by omega
    go_wp2_with fail
    go_quiet (fail)
    go_wp2_with fail
    refine (HG.out _).mono ?_
    rintro e w2 ⟨rfl, h2, b2⟩
    go_wp2
    go_end0
    exact ⟨rfl, h2, (HF.out _).2.trans b2⟩
  · obtain rfl : n = 0 := by omega
    go_wp2_with fail
    go_quiet (fail)
    go_wp2
    go_end0
    exact ⟨rfl, HF.out _⟩
set_option maxRecDepth 100000 in
set_option maxHeartbeats 4000000 in
theorem join_is (a : Option Addr) (cap : Nat) (xs : List ByteArray) (hlen : xs.length ≤ 40) (hsz : ∀ x ∈ xs, x.size ≤ 1000000) (w : World)
    (hc : ∀ (j : Nat) (h : j < xs.length), ∃ g, a = some ⟨g, 0, none⟩ ∧ g < w.heap.size ∧ xs.length ≤ cap ∧ w.cell? ⟨g, j, none⟩ = some (.string xs[j])) :
    Calls Tryz.prog 64 #[.slice a xs.length cap, .string ⟨#[44]⟩] w fun e w' => e = .returned (.string (baL (Lib.join (xs.map (·.data.toList)) [44]))) ∧ Below w.heap.size w w' := by
  cases xs with
  | nil =>
    go_enter Tryz.func64, Tryz.ntmps64
    go_wp2
    go_ret
    exact ⟨rfl, Below.refl _ _⟩
  | cons x0 r =>
    obtain ⟨g, rfl, hg, hcap, hc0⟩ := hc 0 (by simp)
    simp only [List.getElem_cons_zero] at hc0
    have HC : Hid (∀ (j : Nat) (h : j < r.length), w.cell? ⟨g, 1 + j, none⟩ = some (.string r[j])) := by
      intro j h
      obtain ⟨g', he, _, _, h1⟩ := hc (j + 1) (by simpa using h)
      simp only [Option.some.injEq, Addr.mk.injEq, and_true] at he
      rw [← he] at h1
      rw [Nat.add_comm]
      simpa using h1
    have hx0 := hsz x0 (List.mem_cons_self ..)
    have HS : Hid (∀ (j : Nat) (h : j < r.length), r[j].size ≤ 1000000) := fun j h => hsz _ (List.mem_cons_of_mem _ (List.getElem_mem _))
    clear hsz hc
    by_cases h1 : r.length = 0
    · obtain rfl : r = [] := List.eq_nil_of_length_eq_zero h1
      have e1 : Lib.join ([x0].map (·.data.toList)) [44] = x0.data.toList := Lib.join_one _ _
      rw [e1, quoteB_ba]
      simp only [List.length_cons, List.length_nil] at hcap ⊢
      clear h1 hlen HC HS e1
      go_enter Tryz.func64, Tryz.ntmps64
      go_wp2
      go_ret
      exact ⟨rfl, Below.refl _ _⟩
    · obtain ⟨n, hn⟩ : ∃ n, (x0 :: r).length = n := ⟨_, rfl⟩
      have hnr : n = r.length + 1 := by rw [← hn]; rfl
      rw [hn] at hcap hlen ⊢
      have hJ : Lib.join ((x0 :: r).map (·.data.toList)) [44] = x0.data.toList ++ Lib.joinTail [44] (r.map (·.data.toList)) := by rw [List.map_cons, Lib.join_cons]
      rw [hJ]
      have HJT : Hid (∀ k, k ≤ r.length → (Lib.joinTail [44] ((r.map (·.data.toList)).take k)).length ≤ k * 1000001) := by
        intro k
        induction k with
        | zero => intro _; simp [Lib.joinTail]
        | succ k ih =>
          intro hk
          have hq : (r.map (·.data.toList))[k]? = some (r[k]'(by omega)).data.toList := by rw [List.getElem?_map, List.getElem?_eq_getElem (by omega)]; rfl
          have h3 := HS.out k (by omega)
          have h4 : (r[k]'(by omega)).data.toList.length = (r[k]'(by omega)).size := by rw [Array.length_toList]; rfl
          rw [Lib.joinTail_take_succ _ _ _ _ hq]
          simp only [List.length_append, List.length_cons, List.length_nil]
          have := ih (by omega)
          omega
      have hdv : ¬ (9223372036854775807 / ((n : Int) - 1) ≤ 1) := by
        have : (2 : Int) ≤ 9223372036854775807 / ((n : Int) - 1) := Int.le_ediv_of_mul_le (by omega) (by omega)
        omega
      have hne0 : ((n : Int) == 0) = false := beq_eq_false_iff_ne.2 (by omega)
      have hne1 : ((n : Int) == 1) = false := beq_eq_false_iff_ne.2 (by omega)
      have hz : (((n : Int) - 1) == 0) = false := beq_eq_false_iff_ne.2 (by omega)
      have HNR := Lib.hid hnr
      have hn2 : 2 ≤ n := by omega
      clear hn hJ hnr h1
      go_enter Tryz.func64, Tryz.ntmps64
      go_wp2_with fail
      go_loop [5, 41] (fun nv iv => ∃ (k t : Nat), k ≤ n ∧ iv = .int .i64 (k : Int) ∧ nv = .int .i64 (t : Int) ∧ t ≤ 100 + k * 1000000) (fun _ iv => n - (intOf iv).toNat)
      case atStart => exact ⟨0, n - 1, Nat.zero_le _, rfl, by congr 1; omega, by omega⟩
      case round =>
        obtain ⟨k, t, hk, rfl, rfl, ht⟩ := hrel
        by_cases hkn : k < n
        · obtain ⟨x, hxc, hxs⟩ : ∃ x : ByteArray, w.cell? ⟨g, k, none⟩ = some (.string x) ∧ x.size ≤ 1000000 := by
            cases k with
            | zero => exact ⟨x0, hc0, hx0⟩
            | succ k => exact ⟨r[k]'(by have := HNR.out; omega), by rw [Nat.add_comm]; exact HC.out k (by have := HNR.out; omega), HS.out k (by have := HNR.out; omega)⟩
          go_wp2
          exact ⟨⟨k + 1, t + x.size, by omega, by go_num, by first | rfl | (congr 1; omega), by omega⟩, by simp [intOf]; omega⟩
        · obtain rfl : n = k := by omega
          have HG := Lib.hid (bdGrow_is t w (by omega))
          go_wp2_with fail
          refine HG.out.mono ?_
          rintro e w1 ⟨rfl, h2⟩
          have hc1 : w1.cell? ⟨g, 0, none⟩ = some (.string x0) := by rw [h2.2.cell (p := ⟨g, 0, none⟩) hg]; exact hc0
          have H2 := Lib.hid (wsS [] x0 w w1 h2 (by simp; omega))
          clear h2 HG
          go_wp2_with fail
          refine H2.out.mono ?_
          rintro e w2 ⟨rfl, h3⟩
          clear H2 hc1
          go_wp2_with fail
          go_loopw [65] (fun iv wr => ∃ j : Nat, j ≤ r.length ∧ iv = .int .i64 (j : Int) ∧ Hid (BdSt (x0.data.toList ++ Lib.joinTail [44] ((r.map (·.data.toList)).take j)) w wr)) (fun iv _ => r.length - (intOf iv).toNat)
          case atStart => exact ⟨0, Nat.zero_le _, rfl, by show BdSt _ _ _; simpa [Lib.joinTail] using h3⟩
          case round =>
            obtain ⟨j, hj, rfl, HB⟩ := hrel
            have hx0l : x0.data.toList.length = x0.size := by rw [Array.length_toList]; rfl
            by_cases hjr : j < r.length
            · have hjn : (j : Int) < (n : Int) - 1 := by have := HNR.out; omega
              have hcj : wr.cell? ⟨g, 1 + j, none⟩ = some (.string r[j]) := by rw [HB.out.2.cell (p := ⟨g, 1 + j, none⟩) hg]; exact HC.out j hjr
              have hL := HJT.out j hj
              have hnext : x0.data.toList ++ Lib.joinTail [44] ((r.map (·.data.toList)).take j) ++ [44] ++ r[j].data.toList = x0.data.toList ++ Lib.joinTail [44] ((r.map (·.data.toList)).take (j + 1)) := by
                rw [Lib.joinTail_take_succ [44] (r.map (·.data.toList)) j r[j].data.toList (by simp [hjr])]
                simp only [List.append_assoc]
              have hys := HS.out j hjr
              have HN := Lib.hid hnext
              clear hnext
              generalize Lib.joinTail [44] ((r.map (·.data.toList)).take j) = J at HB hL HN
              generalize r[j] = y at hcj HN hys
              have H3 := Lib.hid (wsS _ ⟨#[44]⟩ w wr HB.out (by simp only [List.length_append]; show _ + 1 ≤ _; omega))
              clear HB hx0l
              go_wp2_with fail
              refine H3.out.mono ?_
              rintro e w3 ⟨rfl, h4⟩
              have hx0l : x0.data.toList.length = x0.size := by rw [Array.length_toList]; rfl
              have H4 := Lib.hid (wsS _ y w w3 h4 (by simp only [List.length_append]; show _ + 1 + _ ≤ _; omega))
              clear H3 h4 hx0l
              go_wp2_with fail
              refine H4.out.mono ?_
              rintro e w4 ⟨rfl, h5⟩
              go_wp2
              go_roundw
              case rel => exact ⟨j + 1, by omega, by go_num, by show BdSt _ _ _; rw [← HN.out]; exact h5⟩
              case measure => simp [intOf]; omega
            · have hjn : ¬ (j : Int) < (n : Int) - 1 := by have := HNR.out; omega
              obtain rfl : j = r.length := by omega
              have hT : (r.map (·.data.toList)).take r.length = r.map (·.data.toList) := List.take_of_length_le (by simp)
              rw [hT] at HB
              have H3 := Lib.hid (bsS _ w wr HB.out)
              clear HB
              go_wp2_with fail
              refine H3.out.mono ?_
              rintro e w3 ⟨rfl, h4⟩
              go_wp2
              go_ret
              exact ⟨rfl, h4⟩
end Go.Proofs.YthbgaphidojneaaGreatDoor
