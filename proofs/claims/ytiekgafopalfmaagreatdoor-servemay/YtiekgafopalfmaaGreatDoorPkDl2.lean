import Derived.Test.YtiekgafopalfmaaGreatDoorPkDl1
import Derived.Test.YtiekgafopalfmaaGreatDoorPkSt1
import Derived.Test.YtiekgafopalfmaaGreatDoorPkSt2
import Derived.Test.YtiekgafopalfmaaGreatDoorPkWi2
import Derived.Deep.RegionLaw
import Derived.Deep.RegionHeld3
/- Package delta: tables of rows by their keys, and names that are gone. -/
namespace Go.Proofs.YtiekgafopalfmaaGreatDoor
open Go.RowKit

theorem below_drawn {w w1 : World} (b1 : Below w.drew.heap.size w.drew w1) : Below w.heap.size w w1 := (Below.refl w.heap.size w).drew.trans b1
theorem put_run {w : World} {b n : Nat} {f : ByteArray → Option Value} {t e : TypeId} (ht : Tryz.prog.underlying t = some (.map 9 e)) (hown : MapAt w b n f) (hn : n < maxLen) (s : ByteArray) (hs : s.size ≤ maxLen) (u : Value) :
    ∃ w', (Instr.mapUpdate t (.map (some b)) (.string s) u).run Tryz.prog w = .ok () w' ∧ MapAt w' b (n + 1) (putF f s u) ∧ w.grownBy w' (some b) := by
  obtain ⟨D, h1, h2⟩ := hown
  obtain ⟨w', hrun, r1, r2⟩ := h1.update strKeyed ht hn (strKey hs) (d := .held u) (ps := []) rfl
  exact ⟨w', hrun, ⟨_, r1, putF_at h1.isMap h2 s u⟩, r2⟩
theorem goneE_step (U : ByteArray → Bool) (has : ByteArray → Bool) (l : List ByteArray) (i : Nat) (h : i < l.length) :
    goneE U has (prevK id l i) (l.drop i) = if isName U l[i] then (if badO (prevK id l i) l[i] then 8 else if has l[i] then 7 else goneE U has (prevK id l (i + 1)) (l.drop (i + 1))) else 4 := by
  rw [List.drop_eq_getElem_cons h, goneE, prevK_succ id l i h]
  rfl
theorem jobKey_is (x : JobD) (w : World) : Calls Tryz.prog 34 #[.agg #[.string x.name, .int .i64 x.prio, .int .i64 x.need, .int .i64 x.tries, .string x.tag]] w fun e w' => e = .returned (.string x.name) ∧ Below w.heap.size w w' := jobName_is x w
theorem nodeKey_is (x : NodeD) (w : World) : Calls Tryz.prog 37 #[.agg #[.string x.name, .int .i64 x.room, .string x.zone]] w fun e w' => e = .returned (.string x.name) ∧ Below w.heap.size w w' := nodeName_is x w
theorem leaseKey_is (x : LeaseD) (w : World) : Calls Tryz.prog 41 #[.agg #[.string x.job, .string x.node, .int .i64 x.til]] w fun e w' => e = .returned (.string x.job) ∧ Below w.heap.size w w' := leaseJob_is x w

set_option maxRecDepth 100000 in
set_option maxHeartbeats 4000000 in
theorem byKeyJob_is (xs : List JobD) (ad : Option Addr) (cap : Nat) (hlen : xs.length ≤ 40) (hw : ∀ x ∈ xs, x.name.size ≤ maxLen) (w : World) (hx : JobsAt w ad xs) :
    Calls Tryz.prog 126 #[.slice ad xs.length cap, .func (.func 34) #[] #[]] w fun e w' => e = .returned (.map (some w.heap.size)) ∧ MapAt w' w.heap.size xs.length (tabF (·.name) jobV xs) ∧ Below w.heap.size w w' := by
  have hmm := @run_makeMap Tryz.prog
  have HX := Lib.hid hx
  have HW := Lib.hid hw
  clear hx hw
  go_enter Tryz.func126, Tryz.ntmps126
  go_wp2
  clear hmm
  go_loopw [11] (fun iv wr => ∃ (i : Nat), iv = .int .i64 (i : Int) ∧ i ≤ xs.length ∧ Below w.heap.size w wr ∧ MapAt wr w.heap.size i (tabF (·.name) jobV (xs.take i))) (fun iv _ => xs.length - (intOf iv).toNat)
  case atStart => exact ⟨0, rfl, Nat.zero_le _, below_one _ _, mapAt_ext (mapAt_made w) (fun s => rfl)⟩
  case round =>
    obtain ⟨i, rfl, hi, hbr, hM⟩ := hrel
    by_cases h : (i : Int) < (xs.length : Int)
    · have hil : i < xs.length := by omega
      obtain ⟨a, rfl, hal, k0, k1, k2, k3, k4⟩ := jobsAt_next HX.out hbr i hil
      obtain ⟨x, hxi⟩ : ∃ x, xs[i] = x := ⟨_, rfl⟩
      rw [hxi] at k0 k1 k2 k3 k4
      have hwx : x.name.size ≤ maxLen := HW.out x (by rw [← hxi]; exact List.getElem_mem _)
      have Hxi := Lib.hid hxi
      have bA := below_one wr (.cells #[.string x.name, .int .i64 x.prio, .int .i64 x.need, .int .i64 x.tries, .string x.tag] 38)
      have oB := objAt_new wr #[.string x.name, .int .i64 x.prio, .int .i64 x.need, .int .i64 x.tries, .string x.tag] 38
      have M0 := Lib.hid (mapAt_below hM bA)
      have BR := Lib.hid (below_trans hbr bA hbr.size)
      have OB := Lib.hid oB
      have hbs := hbr.size
      have c0 := objAt_cell oB 0 rfl
      have c1 := objAt_cell oB 1 rfl
      have c2 := objAt_cell oB 2 rfl
      have c3 := objAt_cell oB 3 rfl
      have c4 := objAt_cell oB 4 rfl
      have cl := objAt_lt oB
      clear hxi oB bA hM
      go_upto_region 5 with fail
      go_region_law (first
        | (go_simp; go_at_call 34; refine (jobKey_is x _).mono ?_; rintro e w1 ⟨rfl, b1'⟩; have b1 := below_drawn b1'; have B1 := Lib.hid (below_trans BR.out b1 BR.out.size); have O1 := objAt_next OB.out b1; have M1 := mapAt_below M0.out b1; have d0 := objAt_cell O1 0 rfl; have d1 := objAt_cell O1 1 rfl; have d2 := objAt_cell O1 2 rfl; have d3 := objAt_cell O1 3 rfl; have d4 := objAt_cell O1 4 rfl; have dl := objAt_lt O1; obtain ⟨w2, hrun, M2', hg2'⟩ := put_run Tryz.underlying81 M1 (by unfold maxLen; omega) x.name hwx (.agg #[.string x.name, .int .i64 x.prio, .int .i64 x.need, .int .i64 x.tries, .string x.tag]); have M2 := Lib.hid M2'; have hg2 := Lib.hid hg2'; clear O1 M2' hg2'))
      all_goals
        have hb2 := grownB_below B1.out hg2.out B1.out.size (Nat.le_refl _)
        have M3 : MapAt w2 w.heap.size (i + 1) (tabF (·.name) jobV (xs.take (i + 1))) := mapAt_ext M2.out (fun s => by have := tabF_step (·.name) jobV xs i hil s; rw [Hxi.out] at this; exact this)
        clear M2 hg2 M1 B1 M0 BR OB hrun
        go_wp2
        go_roundw
        case rel => exact ⟨i + 1, by simp, by omega, hb2, M3⟩
        case measure => simp [intOf]; omega
    · obtain rfl : i = xs.length := by omega
      rw [List.take_length] at hM
      go_wp2
      go_ret
      exact ⟨rfl, hM, hbr⟩

set_option maxRecDepth 100000 in
set_option maxHeartbeats 4000000 in
theorem byKeyNode_is (xs : List NodeD) (ad : Option Addr) (cap : Nat) (hlen : xs.length ≤ 40) (hw : ∀ x ∈ xs, x.name.size ≤ maxLen) (w : World) (hx : NodesAt w ad xs) :
    Calls Tryz.prog 128 #[.slice ad xs.length cap, .func (.func 37) #[] #[]] w fun e w' => e = .returned (.map (some w.heap.size)) ∧ MapAt w' w.heap.size xs.length (tabF (·.name) nodeV xs) ∧ Below w.heap.size w w' := by
  have hmm := @run_makeMap Tryz.prog
  have HX := Lib.hid hx
  have HW := Lib.hid hw
  clear hx hw
  go_enter Tryz.func128, Tryz.ntmps128
  go_wp2
  clear hmm
  go_loopw [11] (fun iv wr => ∃ (i : Nat), iv = .int .i64 (i : Int) ∧ i ≤ xs.length ∧ Below w.heap.size w wr ∧ MapAt wr w.heap.size i (tabF (·.name) nodeV (xs.take i))) (fun iv _ => xs.length - (intOf iv).toNat)
  case atStart => exact ⟨0, rfl, Nat.zero_le _, below_one _ _, mapAt_ext (mapAt_made w) (fun s => rfl)⟩
  case round =>
    obtain ⟨i, rfl, hi, hbr, hM⟩ := hrel
    by_cases h : (i : Int) < (xs.length : Int)
    · have hil : i < xs.length := by omega
      obtain ⟨a, rfl, hal, k0, k1, k2⟩ := nodesAt_next HX.out hbr i hil
      obtain ⟨x, hxi⟩ : ∃ x, xs[i] = x := ⟨_, rfl⟩
      rw [hxi] at k0 k1 k2
      have hwx : x.name.size ≤ maxLen := HW.out x (by rw [← hxi]; exact List.getElem_mem _)
      have Hxi := Lib.hid hxi
      have bA := below_one wr (.cells #[.string x.name, .int .i64 x.room, .string x.zone] 40)
      have oB := objAt_new wr #[.string x.name, .int .i64 x.room, .string x.zone] 40
      have M0 := Lib.hid (mapAt_below hM bA)
      have BR := Lib.hid (below_trans hbr bA hbr.size)
      have OB := Lib.hid oB
      have hbs := hbr.size
      have c0 := objAt_cell oB 0 rfl
      have c1 := objAt_cell oB 1 rfl
      have c2 := objAt_cell oB 2 rfl
      have cl := objAt_lt oB
      clear hxi oB bA hM
      go_upto_region 5 with fail
      go_region_law (first
        | (go_simp; go_at_call 37; refine (nodeKey_is x _).mono ?_; rintro e w1 ⟨rfl, b1'⟩; have b1 := below_drawn b1'; have B1 := Lib.hid (below_trans BR.out b1 BR.out.size); have O1 := objAt_next OB.out b1; have M1 := mapAt_below M0.out b1; have d0 := objAt_cell O1 0 rfl; have d1 := objAt_cell O1 1 rfl; have d2 := objAt_cell O1 2 rfl; have dl := objAt_lt O1; obtain ⟨w2, hrun, M2', hg2'⟩ := put_run Tryz.underlying82 M1 (by unfold maxLen; omega) x.name hwx (.agg #[.string x.name, .int .i64 x.room, .string x.zone]); have M2 := Lib.hid M2'; have hg2 := Lib.hid hg2'; clear O1 M2' hg2'))
      all_goals
        have hb2 := grownB_below B1.out hg2.out B1.out.size (Nat.le_refl _)
        have M3 : MapAt w2 w.heap.size (i + 1) (tabF (·.name) nodeV (xs.take (i + 1))) := mapAt_ext M2.out (fun s => by have := tabF_step (·.name) nodeV xs i hil s; rw [Hxi.out] at this; exact this)
        clear M2 hg2 M1 B1 M0 BR OB hrun
        go_wp2
        go_roundw
        case rel => exact ⟨i + 1, by simp, by omega, hb2, M3⟩
        case measure => simp [intOf]; omega
    · obtain rfl : i = xs.length := by omega
      rw [List.take_length] at hM
      go_wp2
      go_ret
      exact ⟨rfl, hM, hbr⟩

set_option maxRecDepth 100000 in
set_option maxHeartbeats 4000000 in
theorem byKeyLease_is (xs : List LeaseD) (ad : Option Addr) (cap : Nat) (hlen : xs.length ≤ 40) (hw : ∀ x ∈ xs, x.job.size ≤ maxLen) (w : World) (hx : LeasesAt w ad xs) :
    Calls Tryz.prog 130 #[.slice ad xs.length cap, .func (.func 41) #[] #[]] w fun e w' => e = .returned (.map (some w.heap.size)) ∧ MapAt w' w.heap.size xs.length (tabF (·.job) leaseV xs) ∧ Below w.heap.size w w' := by
  have hmm := @run_makeMap Tryz.prog
  have HX := Lib.hid hx
  have HW := Lib.hid hw
  clear hx hw
  go_enter Tryz.func130, Tryz.ntmps130
  go_wp2
  clear hmm
  go_loopw [11] (fun iv wr => ∃ (i : Nat), iv = .int .i64 (i : Int) ∧ i ≤ xs.length ∧ Below w.heap.size w wr ∧ MapAt wr w.heap.size i (tabF (·.job) leaseV (xs.take i))) (fun iv _ => xs.length - (intOf iv).toNat)
  case atStart => exact ⟨0, rfl, Nat.zero_le _, below_one _ _, mapAt_ext (mapAt_made w) (fun s => rfl)⟩
  case round =>
    obtain ⟨i, rfl, hi, hbr, hM⟩ := hrel
    by_cases h : (i : Int) < (xs.length : Int)
    · have hil : i < xs.length := by omega
      obtain ⟨a, rfl, hal, k0, k1, k2⟩ := leasesAt_next HX.out hbr i hil
      obtain ⟨x, hxi⟩ : ∃ x, xs[i] = x := ⟨_, rfl⟩
      rw [hxi] at k0 k1 k2
      have hwx : x.job.size ≤ maxLen := HW.out x (by rw [← hxi]; exact List.getElem_mem _)
      have Hxi := Lib.hid hxi
      have bA := below_one wr (.cells #[.string x.job, .string x.node, .int .i64 x.til] 42)
      have oB := objAt_new wr #[.string x.job, .string x.node, .int .i64 x.til] 42
      have M0 := Lib.hid (mapAt_below hM bA)
      have BR := Lib.hid (below_trans hbr bA hbr.size)
      have OB := Lib.hid oB
      have hbs := hbr.size
      have c0 := objAt_cell oB 0 rfl
      have c1 := objAt_cell oB 1 rfl
      have c2 := objAt_cell oB 2 rfl
      have cl := objAt_lt oB
      clear hxi oB bA hM
      go_upto_region 5 with fail
      go_region_law (first
        | (go_simp; go_at_call 41; refine (leaseKey_is x _).mono ?_; rintro e w1 ⟨rfl, b1'⟩; have b1 := below_drawn b1'; have B1 := Lib.hid (below_trans BR.out b1 BR.out.size); have O1 := objAt_next OB.out b1; have M1 := mapAt_below M0.out b1; have d0 := objAt_cell O1 0 rfl; have d1 := objAt_cell O1 1 rfl; have d2 := objAt_cell O1 2 rfl; have dl := objAt_lt O1; obtain ⟨w2, hrun, M2', hg2'⟩ := put_run Tryz.underlying177 M1 (by unfold maxLen; omega) x.job hwx (.agg #[.string x.job, .string x.node, .int .i64 x.til]); have M2 := Lib.hid M2'; have hg2 := Lib.hid hg2'; clear O1 M2' hg2'))
      all_goals
        have hb2 := grownB_below B1.out hg2.out B1.out.size (Nat.le_refl _)
        have M3 : MapAt w2 w.heap.size (i + 1) (tabF (·.job) leaseV (xs.take (i + 1))) := mapAt_ext M2.out (fun s => by have := tabF_step (·.job) leaseV xs i hil s; rw [Hxi.out] at this; exact this)
        clear M2 hg2 M1 B1 M0 BR OB hrun
        go_wp2
        go_roundw
        case rel => exact ⟨i + 1, by simp, by omega, hb2, M3⟩
        case measure => simp [intOf]; omega
    · obtain rfl : i = xs.length := by omega
      rw [List.take_length] at hM
      go_wp2
      go_ret
      exact ⟨rfl, hM, hbr⟩
end Go.Proofs.YtiekgafopalfmaaGreatDoor

/- Package delta: names that are gone. -/
namespace Go.Proofs.YtiekgafopalfmaaGreatDoor
open Go.RowKit

def zeroL : LeaseD := ⟨⟨#[]⟩, ⟨#[]⟩, 0⟩
theorem zeroLease (w : World) : (zeroValue 42).run Tryz.prog w = .ok (leaseV zeroL) w := by kernel_rfl
theorem tabF_lease (V : LeaseD → Value) (l : List LeaseD) (s : ByteArray) : (tabF (·.job) V l s).isSome = hasLease l s := by
  unfold tabF hasLease; rw [Option.isSome_map]; exact lastD_isSome _ _ _
theorem tabF_pick {α : Type} (key : α → ByteArray) (V : α → Value) (l : List α) (s : ByteArray) (z : α) : ∃ y, (tabF key V l s).getD (V z) = V y := by
  unfold tabF
  cases lastD key l s with
  | none => exact ⟨z, rfl⟩
  | some y => exact ⟨y, rfl⟩
theorem gone_name {U has : ByteArray → Bool} {l : List ByteArray} {i R : Nat} (h : i < l.length) (H : goneE U has (prevK id l i) (l.drop i) = R) (hn : isName U l[i] = false) : R = 4 := by
  rw [goneE_step U has l i h, hn] at H
  exact H.symm
theorem gone_bad {U has : ByteArray → Bool} {l : List ByteArray} {i R : Nat} (h : i + 1 < l.length) (H : goneE U has (prevK id l (i + 1)) (l.drop (i + 1)) = R) (hn : isName U l[i + 1] = true) (hb : ¬ lt l[i] l[i + 1]) : R = 8 := by
  rw [goneE_step U has l (i + 1) h, hn, badO_later id l i (by omega)] at H
  simp only [id_eq, hb, decide_false, Bool.not_false, if_true] at H
  exact H.symm
theorem gone_has {U has : ByteArray → Bool} {l : List ByteArray} {i R : Nat} (h : i < l.length) (H : goneE U has (prevK id l i) (l.drop i) = R) (hn : isName U l[i] = true) (hb : badO (prevK id l i) l[i] = false) (hh : has l[i] = true) : R = 7 := by
  rw [goneE_step U has l i h, hn, hb, hh] at H
  exact H.symm
theorem gone_on {U has : ByteArray → Bool} {l : List ByteArray} {i R : Nat} (h : i < l.length) (H : goneE U has (prevK id l i) (l.drop i) = R) (hn : isName U l[i] = true) (hb : badO (prevK id l i) l[i] = false) (hh : has l[i] = false) : goneE U has (prevK id l (i + 1)) (l.drop (i + 1)) = R := by
  rw [goneE_step U has l i h, hn, hb, hh] at H
  exact H
theorem bad_zero (l : List ByteArray) (x : ByteArray) : badO (prevK id l 0) x = false := rfl
theorem bad_lt {l : List ByteArray} {i : Nat} (h : i < l.length) {x : ByteArray} (hl : lt l[i] x) : badO (prevK id l (i + 1)) x = false := by
  rw [badO_later id l i h]
  simp [hl]



end Go.Proofs.YtiekgafopalfmaaGreatDoor

/- state.CheckRows at leases that are checked by themselves. -/
namespace Go.Proofs.YtiekgafopalfmaaGreatDoor
open Go.RowKit

theorem rowS_leaseC {b : Nat} {p : Addr} {x y : LeaseD} {w w1 w2 : World} (b2 : Below w1.heap.size w1 w2) (h : ((w1.cell? ⟨b, 0, none⟩ = some (.string x.job) ∧ w1.cell? ⟨b, 1, none⟩ = some (.string x.node) ∧ w1.cell? ⟨b, 2, none⟩ = some (.int .i64 x.til)) ∧ (w1.cell? p = some (.string y.job) ∧ w1.cell? ⟨p.block, p.off + 1, none⟩ = some (.string y.node) ∧ w1.cell? ⟨p.block, p.off + 2, none⟩ = some (.int .i64 y.til))) ∧ (b < w1.heap.size ∧ p.block < w1.heap.size) ∧ Below w.heap.size w w1) : ((w2.cell? ⟨b, 0, none⟩ = some (.string x.job) ∧ w2.cell? ⟨b, 1, none⟩ = some (.string x.node) ∧ w2.cell? ⟨b, 2, none⟩ = some (.int .i64 x.til)) ∧ (w2.cell? p = some (.string y.job) ∧ w2.cell? ⟨p.block, p.off + 1, none⟩ = some (.string y.node) ∧ w2.cell? ⟨p.block, p.off + 2, none⟩ = some (.int .i64 y.til))) ∧ (b < w2.heap.size ∧ p.block < w2.heap.size) ∧ Below w.heap.size w w2 := by
  obtain ⟨⟨⟨c0, c1, c2⟩, ⟨p0, p1, p2⟩⟩, ⟨h1, h2⟩, h3⟩ := h
  have hs := b2.size
  exact ⟨⟨⟨by rw [b2.cell (p := ⟨b, 0, none⟩) h1]; exact c0, by rw [b2.cell (p := ⟨b, 1, none⟩) h1]; exact c1, by rw [b2.cell (p := ⟨b, 2, none⟩) h1]; exact c2⟩, ⟨by rw [b2.cell h2]; exact p0, by rw [b2.cell (p := ⟨p.block, p.off + 1, none⟩) h2]; exact p1, by rw [b2.cell (p := ⟨p.block, p.off + 2, none⟩) h2]; exact p2⟩⟩, ⟨by omega, by omega⟩, below_trans h3 b2 h3.size⟩
set_option maxRecDepth 100000 in
set_option maxHeartbeats 4000000 in
theorem checkRows_leaseC (T : World → Prop) (hTn : ∀ w w', T w → Below w.heap.size w w' → T w') (E : LeaseD → Nat) (xs : List LeaseD)
    (HC : ∀ x ∈ xs, ∀ w, T w → Calls Tryz.prog 228 #[.agg #[.string x.job, .string x.node, .int .i64 x.til]] w fun e w' => e = .returned (.int .i64 (E x : Nat)) ∧ Below w.heap.size w w')
    (ad : Option Addr) (cap : Nat) (hlen : xs.length ≤ 40) (w : World) (hT : T w) (hx : LeasesAt w ad xs) :
    Calls Tryz.prog 39 #[.slice ad xs.length cap, .func (.func 228) #[] #[], .func (.func 41) #[] #[]] w fun e w' => e = .returned (.int .i64 (rowsE E (·.job) none xs : Nat)) ∧ Below w.heap.size w w' := by
  obtain ⟨R, hR⟩ : ∃ R, rowsE E (·.job) none xs = R := ⟨_, rfl⟩
  rw [hR]
  have HR0 : Hid (rowsE E (·.job) (prevK (·.job) xs 0) (xs.drop 0) = R) := hR
  have HC := Lib.hid HC
  have HX := Lib.hid hx
  have HTn := Lib.hid hTn
  have HT := Lib.hid hT
  clear hR hx hTn hT
  go_enter Tryz.func39, Tryz.ntmps39
  go_wp2
  go_loopw [12] (fun iv wr => ∃ (i : Nat), iv = .int .i64 (i : Int) ∧ i ≤ xs.length ∧ Below w.heap.size w wr ∧ Hid (rowsE E (·.job) (prevK (·.job) xs i) (xs.drop i) = R)) (fun iv _ => xs.length - (intOf iv).toNat)
  case atStart => exact ⟨0, rfl, by omega, Below.refl _ _, HR0⟩
  case round =>
    obtain ⟨i, rfl, hi, hbr, HR⟩ := hrel
    by_cases h : (i : Int) < (xs.length : Int)
    · have hil : i < xs.length := by omega
      have hx := leasesAt_next HX.out hbr
      obtain ⟨a, rfl, hal, k0, k1, k2⟩ := hx i hil
      have HTr := HTn.out _ _ HT.out hbr
      obtain ⟨x, hxi⟩ : ∃ x, xs[i] = x := ⟨_, rfl⟩
      rw [hxi] at k0 k1 k2
      have hm : x ∈ xs := by rw [← hxi]; exact List.getElem_mem _
      have HCx := Lib.hid (HC.out x hm (wr.alloc (.cells #[.string x.job, .string x.node, .int .i64 x.til] 42)) (HTn.out _ _ HTr (below_one _ _)))
      obtain ⟨e0, he0⟩ : ∃ e0, E x = e0 := ⟨_, rfl⟩
      rw [he0] at HCx
      have Hxi := Lib.hid hxi
      clear hx hxi
      go_wp2_with fail
      refine HCx.out.mono ?_
      rintro e w1 ⟨rfl, b1⟩
      have bx := box_next (box_new3 wr (.string x.job) (.string x.node) (.int .i64 x.til) 42) b1
      have hb1 : Below w.heap.size w w1 := below_trans (hbr.alloc hbr.size _) b1 (by have := hbr.size; simp; omega)
      by_cases h0 : e0 ≠ 0
      · have HR1 : Hid (R = e0) := rows_stop hil HR.out (by rw [Hxi.out]; exact he0) h0
        have hc : ((e0 : Int) != 0) = true := by simp; omega
        go_wp2
        go_ret
        exact ⟨by rw [HR1.out]; rfl, hb1⟩
      · have h0 : e0 = 0 := by simpa using h0
        subst h0
        have c0 := bx.1 0 _ rfl
        have c1 := bx.1 1 _ rfl
        have c2 := bx.1 2 _ rfl
        have hb0 : wr.heap.size < w1.heap.size := bx.2
        have HE0 : Hid (E x = 0) := he0
        clear he0 HCx k0 k1 k2 hal
        cases i with
        | zero =>
          have HR1 : Hid (rowsE E (·.job) (prevK (·.job) xs 1) (xs.drop 1) = R) := rows_first hil HR.out (by rw [Hxi.out]; exact HE0.out)
          go_wp2_with fail
          go_region
          go_wp2
          go_roundw
          case rel => exact ⟨1, by simp, by omega, hb1.drew, HR1⟩
          case measure => simp [intOf]; omega
        | succ m =>
          obtain ⟨a', ha', hal, p0, p1, p2⟩ := leasesAt_next HX.out hb1 m (by omega)
          cases ha'
          obtain ⟨y, hy⟩ : ∃ y, xs[m] = y := ⟨_, rfl⟩
          rw [hy] at p0 p1 p2
          have hwr : IntKind.i64.wrap (m : Int) = (m : Int) := IntWalk.i64_in _ (by omega)
          have hm0 : (0 : Int) ≤ (m : Int) := by omega
          have hm1 : (m : Int) < (xs.length : Int) := by omega
          have hpb : (a.add (m * 3)).block < w1.heap.size := by rw [add_block]; exact hal
          have HY : Hid (xs[m] = y) := hy
          clear hy bx b1
          go_wp2_with fail
          by_cases hlt : lt y.job x.job
          · obtain ⟨hl1, hl2⟩ := above_lists hlt
            have HR1 : Hid (rowsE E (·.job) (prevK (·.job) xs (m + 1 + 1)) (xs.drop (m + 1 + 1)) = R) := rows_on hil HR.out (by rw [Hxi.out]; exact HE0.out) (by rw [HY.out, Hxi.out]; exact hlt)
            clear hlt
            go_region_held3 (fun w' => ((w'.cell? ⟨wr.heap.size, 0, none⟩ = some (.string x.job) ∧ w'.cell? ⟨wr.heap.size, 1, none⟩ = some (.string x.node) ∧ w'.cell? ⟨wr.heap.size, 2, none⟩ = some (.int .i64 x.til)) ∧ (w'.cell? (a.add (m * 3)) = some (.string y.job) ∧ w'.cell? ⟨(a.add (m * 3)).block, (a.add (m * 3)).off + 1, none⟩ = some (.string y.node) ∧ w'.cell? ⟨(a.add (m * 3)).block, (a.add (m * 3)).off + 2, none⟩ = some (.int .i64 y.til))) ∧ (wr.heap.size < w'.heap.size ∧ (a.add (m * 3)).block < w'.heap.size) ∧ Below w.heap.size w w')
              (first | assumption | exact ⟨⟨⟨c0, c1, c2⟩, ⟨p0, p1, p2⟩⟩, ⟨hb0, hpb⟩, hb1⟩ | exact ⟨⟨⟨c0, c1, c2⟩, ⟨p0, p1, p2⟩⟩, ⟨hb0, hpb⟩, hb1.drew⟩)
              (first | (go_at_call 41; (with_reducible refine (leaseJob_is _ _).mono ?_); rintro e w2 ⟨rfl, b2⟩; have o2 := rowS_leaseC (b := wr.heap.size) (p := a.add (m * 3)) (x := x) (y := y) (w := w) b2 (by assumption)))
            all_goals
              rename_i o2
              have hb2 := o2.2.2
              clear o2
              go_wp2
              go_roundw
              case rel => exact ⟨m + 1 + 1, by simp, by omega, hb2, HR1⟩
              case measure => simp [intOf]; omega
          · have HR1 : Hid (R = 8) := rows_bad hil HR.out (by rw [Hxi.out]; exact HE0.out) (by rw [HY.out, Hxi.out]; exact hlt)
            rcases below_lists hlt with ⟨hl1, hl2⟩ | ⟨hl1, hl2⟩
            all_goals
              clear hlt
              go_region_held3 (fun w' => ((w'.cell? ⟨wr.heap.size, 0, none⟩ = some (.string x.job) ∧ w'.cell? ⟨wr.heap.size, 1, none⟩ = some (.string x.node) ∧ w'.cell? ⟨wr.heap.size, 2, none⟩ = some (.int .i64 x.til)) ∧ (w'.cell? (a.add (m * 3)) = some (.string y.job) ∧ w'.cell? ⟨(a.add (m * 3)).block, (a.add (m * 3)).off + 1, none⟩ = some (.string y.node) ∧ w'.cell? ⟨(a.add (m * 3)).block, (a.add (m * 3)).off + 2, none⟩ = some (.int .i64 y.til))) ∧ (wr.heap.size < w'.heap.size ∧ (a.add (m * 3)).block < w'.heap.size) ∧ Below w.heap.size w w')
                (first | assumption | exact ⟨⟨⟨c0, c1, c2⟩, ⟨p0, p1, p2⟩⟩, ⟨hb0, hpb⟩, hb1⟩ | exact ⟨⟨⟨c0, c1, c2⟩, ⟨p0, p1, p2⟩⟩, ⟨hb0, hpb⟩, hb1.drew⟩)
                (first | (go_at_call 41; (with_reducible refine (leaseJob_is _ _).mono ?_); rintro e w2 ⟨rfl, b2⟩; have o2 := rowS_leaseC (b := wr.heap.size) (p := a.add (m * 3)) (x := x) (y := y) (w := w) b2 (by assumption)))
              all_goals
                rename_i o2
                have hb2 := o2.2.2
                clear o2
                go_wp2
                go_ret
                exact ⟨by rw [HR1.out]; rfl, hb2⟩
    · obtain rfl : i = xs.length := by omega
      have HR1 : Hid (0 = R) := by have := HR.out; rw [rowsE_end] at this; exact this
      go_wp2
      go_ret
      exact ⟨by rw [← HR1.out]; rfl, hbr⟩
end Go.Proofs.YtiekgafopalfmaaGreatDoor

/- Package delta: Check. -/
namespace Go.Proofs.YtiekgafopalfmaaGreatDoor
open Go.RowKit

set_option maxRecDepth 100000 in
set_option maxHeartbeats 1000000 in
theorem checkLeaseC_is (x : LeaseD) (w : World) (hT : Tabs w) : Calls Tryz.prog 228 #[.agg #[.string x.job, .string x.node, .int .i64 x.til]] w fun e w' => e = .returned (.int .i64 (leaseCE V8 x : Nat)) ∧ Below w.heap.size w w' := by
  have bW := below_one w (.cells #[.string x.job, .string x.node, .int .i64 x.til] 42)
  have oB := objAt_new w #[.string x.job, .string x.node, .int .i64 x.til] 42
  have H1 := Lib.hid (isName_is x.job _ (hT.below bW))
  have HN := Lib.hid (isName_is x.node)
  have HT := Lib.hid (hT.below bW)
  obtain ⟨c1, h1⟩ : ∃ c, isName V8 x.job = c := ⟨_, rfl⟩
  obtain ⟨c2, h2⟩ : ∃ c, isName V8 x.node = c := ⟨_, rfl⟩
  obtain ⟨d0, g0⟩ : ∃ d, inR x.til 0 1099511627776 = d := ⟨_, rfl⟩
  have G0 := Lib.hid (checkUntil_is x d0 g0)
  have HE : Hid (leaseCE V8 x = if (c1 && c2) = true then (if d0 = true then 0 else 1) else 4) := by show _ = _; rw [leaseCE, h1, h2, g0]
  obtain ⟨R, hR⟩ : ∃ R, leaseCE V8 x = R := ⟨_, rfl⟩
  rw [hR] at HE ⊢
  rw [h1] at H1
  rw [h2] at HN
  have BW := Lib.hid bW
  have OB := Lib.hid oB
  have q0 := objAt_cell oB 0 rfl
  have q1 := objAt_cell oB 1 rfl
  have q2 := objAt_cell oB 2 rfl
  clear hT h1 h2 hR g0 bW oB
  cases c1 with
  | false =>
    go_enter Tryz.func228, Tryz.ntmps228
    go_wp2_with fail
    refine H1.out.mono ?_
    rintro e w1 ⟨rfl, b1⟩
    go_wp2
    go_ret
    exact ⟨by rw [HE.out]; rfl, below_trans BW.out b1 BW.out.size⟩
  | true =>
    go_enter Tryz.func228, Tryz.ntmps228
    go_wp2_with fail
    refine H1.out.mono ?_
    rintro e w1 ⟨rfl, b1⟩
    have O1 := objAt_next OB.out b1
    have HN1 := Lib.hid (HN.out w1 (HT.out.below b1))
    have B1 := Lib.hid (below_trans BW.out b1 BW.out.size)
    have r0 := objAt_cell O1 0 rfl
    have r1 := objAt_cell O1 1 rfl
    have r2 := objAt_cell O1 2 rfl
    have OO1 := Lib.hid O1
    clear O1 b1 q0 q1 q2
    go_wp2_with fail
    refine HN1.out.mono ?_
    rintro e w2 ⟨rfl, b2⟩
    have O2 := objAt_next OO1.out b2
    have B2 := Lib.hid (below_trans B1.out b2 B1.out.size)
    have s0 := objAt_cell O2 0 rfl
    have s1 := objAt_cell O2 1 rfl
    have s2 := objAt_cell O2 2 rfl
    clear O2 b2 r0 r1 r2 OO1
    cases c2 with
    | false =>
      go_wp2
      go_ret
      exact ⟨by rw [HE.out]; rfl, B2.out⟩
    | true =>
      go_wp2_with fail
      refine (G0.out w2).mono ?_
      rintro e w3 ⟨rfl, b3⟩
      have B3 := Lib.hid (below_trans B2.out b3 B2.out.size)
      clear b3
      cases d0 with
      | false =>
        simp only [Bool.false_eq_true, if_false]
        go_wp2
        go_ret
        exact ⟨by rw [HE.out]; rfl, B3.out⟩
      | true =>
        simp only [if_true]
        go_wp2
        go_ret
        exact ⟨by rw [HE.out]; rfl, B3.out⟩
/-- Are there too many? -/
def largeD (d : DelD) : Bool := !(decide ((d.jobs.length ≤ 40 ∧ d.leases.length ≤ 40 ∧ d.gj.length ≤ 40 ∧ d.gl.length ≤ 40) ∧ d.nodes.length ≤ 20 ∧ d.gn.length ≤ 20))
theorem max_gt (a b n : Nat) : decide ((n : Int) < max (a : Int) (b : Int)) = decide (n < a ∨ n < b) := by
  rw [Bool.eq_iff_iff, decide_eq_true_eq, decide_eq_true_eq]
  omega
end Go.Proofs.YtiekgafopalfmaaGreatDoor

/- Package delta: Check at every delta. -/
namespace Go.Proofs.YtiekgafopalfmaaGreatDoor
open Go.RowKit

theorem used_nil (jobs : List JobD) (n : ByteArray) : usedD jobs [] n = 0 := rfl
theorem check_part (d : DelD) (h1 : d.jobs.length ≤ 40) (h2 : d.nodes.length ≤ 20) : checkE V8 ⟨0, d.jobs, d.nodes, []⟩ = orE (rowsE (jobE V8) (·.name) none d.jobs) (rowsE (nodeE V8) (·.name) none d.nodes) := by
  have hh : headSE ⟨0, d.jobs, d.nodes, []⟩ = 0 := by
    unfold headSE
    rw [if_pos (by rfl), if_pos ⟨h1, Nat.zero_le _, h2⟩]
  unfold checkE
  rw [hh]
  show orE 0 (orE (rowsE (jobE V8) (·.name) none d.jobs) (orE (rowsE (nodeE V8) (·.name) none d.nodes) (orE 0 (roomE d.jobs [] d.nodes)))) = _
  by_cases hn : rowsE (nodeE V8) (·.name) none d.nodes = 0
  · have hz := (rowsE_zero _ _ _ _).1 hn
    have hr : roomE d.jobs [] d.nodes = 0 := by
      refine roomE_yes (fun j hj => ?_)
      rw [used_nil]
      exact ((nodeE_zero V8 _).1 (hz.1 _ (List.getElem_mem hj))).2.1
    rw [hr, hn]
    simp [orE]
  · simp [orE, hn]
theorem orE_left {a b : Nat} (h : a ≠ 0) : orE a b = a := if_pos h
theorem orE_assoc (a b c : Nat) : orE (orE a b) c = orE a (orE b c) := by
  by_cases h : a = 0
  · subst h; rfl
  · rw [orE_left h, orE_left h, orE_left h]
theorem orE_right (b : Nat) : orE 0 b = b := rfl
theorem head_arg {d : DelD} (h : d.frm < 0 ∨ d.til ≤ d.frm ∨ 1099511627776 < d.til) : headDE d = 1 := by
  unfold headDE
  rw [if_neg]
  rw [Bool.and_eq_true, inR_iff, inR_iff]
  omega
theorem head_large {d : DelD} (h : ¬ (d.frm < 0 ∨ d.til ≤ d.frm ∨ 1099511627776 < d.til)) (hl : largeD d = true) : headDE d = 2 := by
  unfold headDE
  rw [if_pos (by rw [Bool.and_eq_true, inR_iff, inR_iff]; omega), if_neg]
  unfold largeD at hl
  rw [Bool.not_eq_true', decide_eq_false_iff_not] at hl
  exact hl
theorem head_ok {d : DelD} (h : ¬ (d.frm < 0 ∨ d.til ≤ d.frm ∨ 1099511627776 < d.til)) (hl : largeD d = false) : headDE d = 0 ∧ (d.jobs.length ≤ 40 ∧ d.leases.length ≤ 40 ∧ d.gj.length ≤ 40 ∧ d.gl.length ≤ 40) ∧ d.nodes.length ≤ 20 ∧ d.gn.length ≤ 20 := by
  unfold largeD at hl
  rw [Bool.not_eq_false', decide_eq_true_eq] at hl
  refine ⟨?_, hl⟩
  unfold headDE
  rw [if_pos (by rw [Bool.and_eq_true, inR_iff, inR_iff]; omega), if_pos hl]
end Go.Proofs.YtiekgafopalfmaaGreatDoor
