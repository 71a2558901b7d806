/- Package up: how often a job was tried, by its lease; the functions that raise and lower hand to each. -/
import Derived.Test.YtclopkpfeofjmaaGreatDoorUpEach
import Derived.Test.YtclopkpfeofjmaaGreatDoorPkWi5
namespace Go.Proofs.YtclopkpfeofjmaaGreatDoor
open Go.RowKit

def leased (n : ByteArray) (l : LeaseD) : Bool := decide (l.job = n)
theorem hasLease_any (ls : List LeaseD) (n : ByteArray) : hasLease ls n = ls.any (leased n) := rfl
theorem leased_is (b : Nat) (n : ByteArray) (l : LeaseD) (w : World) (hc : w.cell? ⟨b, 0, none⟩ = some (.string n)) (hb : b < w.heap.size) :
    Calls Tryz.prog 107 #[.agg #[.string l.job, .string l.node, .int .i64 l.til], .pointer (some ⟨b, 0, none⟩)] w fun e w' => e = .returned (.bool (leased n l)) ∧ Below w.heap.size w w' := by
  have hc' : (w.alloc (.cells #[.string l.job, .string l.node, .int .i64 l.til] 48)).cell? ⟨b, 0, none⟩ = some (.string n) := by rw [(below_one w _).cell (p := ⟨b, 0, none⟩) hb]; exact hc
  by_cases h : l.job = n
  · have e : leased n l = true := decide_eq_true h
    rw [e]
    subst h
    have g := lists_eq l.job
    clear e hc
    go_enter Tryz.func107, Tryz.ntmps107
    go_wp2
    go_ret
    exact ⟨rfl, below_one _ _⟩
  · have e : leased n l = false := decide_eq_false h
    rw [e]
    have g := lists_ne h
    clear e hc h
    go_enter Tryz.func107, Tryz.ntmps107
    go_wp2
    go_ret
    exact ⟨rfl, below_one _ _⟩
set_option maxRecDepth 100000 in
set_option maxHeartbeats 1000000 in
theorem index_leased (b : Nat) (n : ByteArray) (xs : List LeaseD) (ad : Option Addr) (cap : Nat) (hlen : xs.length ≤ 40) (w : World) (hx : LeasesAt w ad xs) (hc : w.cell? ⟨b, 0, none⟩ = some (.string n)) (hb : b < w.heap.size) :
    Calls Tryz.prog 127 #[.slice ad xs.length cap, .func (.func 107) #[] #[.pointer (some ⟨b, 0, none⟩)]] w fun e w' => ∃ r : Int, e = .returned (.int .i64 r) ∧ decide (0 ≤ r) = xs.any (leased n) ∧ Below w.heap.size w w' := by
  have HX := Lib.hid hx
  have HC := Lib.hid (fun l w1 (h : Below w.heap.size w w1) => leased_is b n l w1 (by rw [h.cell (p := ⟨b, 0, none⟩) hb]; exact hc) (Nat.lt_of_lt_of_le hb h.size))
  clear hx hc hb
  go_enter Tryz.func127, Tryz.ntmps127
  go_wp2
  go_loopw [8] (fun iv wr => ∃ (i : Nat), iv = .int .i64 (i : Int) ∧ i ≤ xs.length ∧ Below w.heap.size w wr ∧ Hid (∀ j, (hj : j < xs.length) → j < i → leased n xs[j] = false)) (fun iv _ => xs.length - (intOf iv).toNat)
  case atStart => exact ⟨0, rfl, by omega, Below.refl _ _, fun j _ hj => by omega⟩
  case round =>
    obtain ⟨i, rfl, hi, hbr, HS⟩ := hrel
    by_cases h : (i : Int) < (xs.length : Int)
    · have hil : i < xs.length := by omega
      obtain ⟨a, rfl, hal, k0, k1, k2⟩ := leasesAt_next HX.out hbr i hil
      obtain ⟨x, hxi⟩ : ∃ x, xs[i] = x := ⟨_, rfl⟩
      rw [hxi] at k0 k1 k2
      have HPx := Lib.hid (HC.out x wr hbr)
      have Hxi := Lib.hid hxi
      clear hxi
      obtain ⟨c, hc⟩ : ∃ c, leased n x = c := ⟨_, rfl⟩
      rw [hc] at HPx
      have HCc := Lib.hid hc
      clear hc
      go_wp2_with fail
      refine HPx.out.mono ?_
      rintro e w1 ⟨rfl, b1⟩
      have hb1 := below_trans hbr b1 hbr.size
      cases c with
      | true =>
        have HR : Hid (true = xs.any (leased n)) := (any_stop hil (by rw [Hxi.out]; exact HCc.out)).symm
        go_wp2
        go_ret
        exact ⟨_, rfl, by rw [← HR.out]; simp, hb1⟩
      | false =>
        have HS2 : Hid (∀ j, (hj : j < xs.length) → j < i + 1 → leased n xs[j] = false) := by
          intro j hj hji
          by_cases e : j = i
          · subst e; rw [Hxi.out]; exact HCc.out
          · exact HS.out j hj (by omega)
        go_wp2
        go_roundw
        case rel => exact ⟨i + 1, by simp, by omega, hb1, HS2⟩
        case measure => simp [intOf]; omega
    · obtain rfl : i = xs.length := by omega
      have HR : Hid (false = xs.any (leased n)) := (any_end HS.out).symm
      go_wp2
      go_ret
      exact ⟨-1, rfl, by rw [← HR.out]; rfl, hbr⟩
theorem contains_leased (b : Nat) (n : ByteArray) (xs : List LeaseD) (ad : Option Addr) (cap : Nat) (hlen : xs.length ≤ 40) (w : World) (hx : LeasesAt w ad xs) (hc : w.cell? ⟨b, 0, none⟩ = some (.string n)) (hb : b < w.heap.size) :
    Calls Tryz.prog 106 #[.slice ad xs.length cap, .func (.func 107) #[] #[.pointer (some ⟨b, 0, none⟩)]] w fun e w' => e = .returned (.bool (hasLease xs n)) ∧ Below w.heap.size w w' := by
  have H := Lib.hid (index_leased b n xs ad cap hlen w hx hc hb)
  rw [hasLease_any]
  obtain ⟨c, hc'⟩ : ∃ c, xs.any (leased n) = c := ⟨_, rfl⟩
  rw [hc'] at H ⊢
  clear hc' hx hc hb
  go_enter Tryz.func106, Tryz.ntmps106
  go_wp2_with fail
  refine H.out.mono ?_
  rintro e w1 ⟨r, rfl, hr, b1⟩
  go_wp2
  go_ret
  exact ⟨by rw [← hr]; rfl, b1⟩
theorem triesOf_is (x : JobD) (ls : List LeaseD) (al : Option Addr) (cl : Nat) (hlen : ls.length ≤ 40) (w : World) (hl : LeasesAt w al ls) :
    Calls Tryz.prog 81 #[.agg #[.string x.name, .int .i64 x.prio, .int .i64 x.need, .int .i64 x.tries, .string x.tag], .slice al ls.length cl] w fun e w' => e = .returned (.int .i64 (if hasLease ls x.name = true then 1 else 0)) ∧ Below w.heap.size w w' := by
  have bA := below_one w (.cells #[.string x.name, .int .i64 x.prio, .int .i64 x.need, .int .i64 x.tries, .string x.tag] 50)
  have q := objAt_new w #[.string x.name, .int .i64 x.prio, .int .i64 x.need, .int .i64 x.tries, .string x.tag] 50
  have H := Lib.hid (contains_leased w.heap.size x.name ls al cl hlen _ (leasesAt_next hl bA) (objAt_cell q 0 rfl) (objAt_lt q))
  cases hc : hasLease ls x.name with
  | true =>
    rw [hc] at H
    rw [if_pos rfl]
    clear hc hl q
    go_enter Tryz.func81, Tryz.ntmps81
    go_wp2_with fail
    refine H.out.mono ?_
    rintro e w1 ⟨rfl, b1⟩
    go_wp2
    go_ret
    exact ⟨rfl, below_trans bA b1 bA.size⟩
  | false =>
    rw [hc] at H
    rw [if_neg (by simp)]
    clear hc hl q
    go_enter Tryz.func81, Tryz.ntmps81
    go_wp2_with fail
    refine H.out.mono ?_
    rintro e w1 ⟨rfl, b1⟩
    go_wp2
    go_ret
    exact ⟨rfl, below_trans bA b1 bA.size⟩
set_option maxRecDepth 100000 in
theorem raiseJ_is (b : Nat) (x : JobD) (ls : List LeaseD) (al : Option Addr) (cl : Nat) (hlen : ls.length ≤ 40) (w : World) (hl : LeasesAt w al ls) (hc : w.cell? ⟨b, 3, none⟩ = some (.slice al ls.length cl)) (hb : b < w.heap.size) :
    Calls Tryz.prog 80 #[.agg #[.string x.name, .int .i64 x.prio, .int .i64 x.need, .int .i64 x.tries, .string x.tag], .pointer (some ⟨b, 0, none⟩)] w fun e w' => e = .returned (.agg #[.string (r2J ls x).name, .int .i64 (r2J ls x).prio, .int .i64 (r2J ls x).need, .int .i64 (r2J ls x).tries, .string (r2J ls x).tag]) ∧ Below w.heap.size w w' := by
  obtain ⟨H, hH⟩ : ∃ H, w.heap.size = H := ⟨_, rfl⟩
  obtain ⟨W0, hW0⟩ : ∃ W0, (w.alloc (.cells #[.string x.name, .int .i64 x.prio, .int .i64 x.need, .int .i64 x.tries, .string x.tag] 50)).alloc (.cells #[.string ⟨#[]⟩, .int .i64 0, .int .i64 0, .int .i64 0, .string ⟨#[]⟩] 50) = W0 := ⟨_, rfl⟩
  have s0 : SepJob H x w W0 := by
    rw [← hW0, ← hH]
    refine ⟨objAt_next (objAt_new w _ _) (below_one _ _), ?_, below_trans (below_one _ _) (below_one _ _) (by simp)⟩
    have := objAt_new (w.alloc (.cells #[.string x.name, .int .i64 x.prio, .int .i64 x.need, .int .i64 x.tries, .string x.tag] 50)) #[.string ⟨#[]⟩, .int .i64 0, .int .i64 0, .int .i64 0, .string ⟨#[]⟩] 50
    rwa [World.size_alloc] at this
  have bW : Below w.heap.size w W0 := by rw [hH]; exact s0.2.2
  have HT := Lib.hid (triesOf_is x ls al cl hlen W0 (leasesAt_next hl bW))
  have hc0 : W0.cell? ⟨b, 3, none⟩ = some (.slice al ls.length cl) := by rw [bW.cell (p := ⟨b, 3, none⟩) hb]; exact hc
  obtain ⟨o1, o2, hB⟩ := s0
  have c0 := objAt_cell o1 0 rfl
  have c1 := objAt_cell o1 1 rfl
  have c2 := objAt_cell o1 2 rfl
  have c3 := objAt_cell o1 3 rfl
  have c4 := objAt_cell o1 4 rfl
  have O := Lib.hid (And.intro o1 (And.intro o2 hB))
  obtain ⟨T, hT⟩ : ∃ T : Int, (if hasLease ls x.name = true then 1 else 0) = T := ⟨_, rfl⟩
  have er : r2J ls x = ⟨x.name, x.prio, x.need, T, x.tag⟩ := by unfold r2J; rw [hT]
  rw [er, hH]
  rw [hT] at HT
  clear hl hc hb bW o1 o2 hB er hT
  go_enter Tryz.func80, Tryz.ntmps80
  go_wp2_with fail
  refine HT.out.mono ?_
  rintro e w1 ⟨rfl, b1⟩
  obtain ⟨o1, o2, hB⟩ := O.out
  have hB1 := below_trans hB b1 (Nat.le_of_lt (objAt_lt o1))
  have p1 := objAt_next o1 b1
  have p2 := objAt_next o2 b1
  have g3 := objAt_free p1 3
  have q1 : ObjAt H #[.string x.name, .int .i64 x.prio, .int .i64 x.need, .int .i64 T, .string x.tag] 50 _ := objAt_set p1 3 (.int .i64 T)
  have q2 := objAt_other p2 (c := H) (by omega) 3 (.int .i64 T)
  have hB2 := hB1.setCell (p := ⟨H, 3, none⟩) (Nat.le_refl _) (.int .i64 T)
  have oF : ObjAt (H + 1) #[.string x.name, .int .i64 x.prio, .int .i64 x.need, .int .i64 T, .string x.tag] 50 _ := (objAt_set (objAt_set (objAt_set (objAt_set (objAt_set q2 0 (.string x.name)) 1 (.int .i64 x.prio)) 2 (.int .i64 x.need)) 3 (.int .i64 T)) 4 (.string x.tag))
  have BB := Lib.hid (((((hB2.setCell (p := ⟨H + 1, 0, none⟩) (Nat.le_succ H) (.string x.name)).setCell (p := ⟨H + 1, 1, none⟩) (Nat.le_succ H) (.int .i64 x.prio)).setCell (p := ⟨H + 1, 2, none⟩) (Nat.le_succ H) (.int .i64 x.need)).setCell (p := ⟨H + 1, 3, none⟩) (Nat.le_succ H) (.int .i64 T)).setCell (p := ⟨H + 1, 4, none⟩) (Nat.le_succ H) (.string x.tag))
  have k3 := objAt_cell p1 3 rfl
  clear c0 c1 c2 c3 c4
  have c0 := objAt_cell q1 0 rfl
  have c1 := objAt_cell q1 1 rfl
  have c2 := objAt_cell q1 2 rfl
  have c3 := objAt_cell q1 3 rfl
  have c4 := objAt_cell q1 4 rfl
  have f0 := objAt_free q2 0
  have f1 := objAt_free q2 1
  have f2 := objAt_free q2 2
  have f3 := objAt_free q2 3
  have f4 := objAt_free q2 4
  have m0 := objAt_cell q2 0 rfl
  have m1 := objAt_cell q2 1 rfl
  have m2 := objAt_cell q2 2 rfl
  have m3 := objAt_cell q2 3 rfl
  have m4 := objAt_cell q2 4 rfl
  have t0 := objAt_cell oF 0 rfl
  have t1 := objAt_cell oF 1 rfl
  have t2 := objAt_cell oF 2 rfl
  have t3 := objAt_cell oF 3 rfl
  have t4 := objAt_cell oF 4 rfl
  have TT := Lib.hid (And.intro t0 (And.intro t1 (And.intro t2 (And.intro t3 t4))))
  clear oF hB hB1 hB2 o1 o2 p1 p2 q1 q2 t0 t1 t2 t3 t4 b1 HT O hc0
  go_wp2
  obtain ⟨t0, t1, t2, t3, t4⟩ := TT.out
  exact bodyPost_ret (v := .agg #[.string x.name, .int .i64 x.prio, .int .i64 x.need, .int .i64 T, .string x.tag]) (by simp [results, Tryz.results80, go_sem, t0, t1, t2, t3, t4]) rfl ⟨rfl, BB.out⟩
end Go.Proofs.YtclopkpfeofjmaaGreatDoor
