import Derived.Test.YtiekgafopalfmaaGreatDoorPkSv1
import Derived.Test.YtiekgafopalfmaaGreatDoorPkDl4
import Derived.Test.YtiekgafopalfmaaGreatDoorPkSt2
import Derived.Lib.AppendZeros
import Derived.Test.YtiekgafopalfmaaGreatDoorPkSv2
import Derived.Lib.SliceRun
import Derived.Deep.RegionLaw
/- find: a row's place by its key. -/
namespace Go.Proofs.YtiekgafopalfmaaGreatDoor
open Go.RowKit Go.Lib

/-- How many rows stand ahead of a key. -/
def PosP {α : Type} (key : α → ByteArray) (l : List α) (x : ByteArray) (p : Nat) : Prop := p ≤ l.length ∧ (∀ t (h : t < l.length), t < p → lt (key l[t]) x) ∧ ∀ t (h : t < l.length), p ≤ t → ¬ lt (key l[t]) x
theorem cmpB_lt (a b : ByteArray) : decide (Lib.compareBytes a.data.toList b.data.toList < 0) = decide (lt a b) := by rw [cmp_lt, less_is]
theorem cmpB_neg {a b : ByteArray} (h : lt a b) : Lib.compareBytes a.data.toList b.data.toList < 0 := by have := cmpB_lt a b; rw [decide_eq_true h] at this; exact of_decide_eq_true this
theorem cmpB_pos {a b : ByteArray} (h : ¬ lt a b) : ¬ Lib.compareBytes a.data.toList b.data.toList < 0 := by have := cmpB_lt a b; rw [decide_eq_false h] at this; exact of_decide_eq_false this
theorem compare_zero : ∀ a b : List UInt8, Lib.compareBytes a b = 0 ↔ a = b
  | [], [] => by simp [Lib.compareBytes]
  | [], _ :: _ => by simp [Lib.compareBytes]
  | _ :: _, [] => by simp [Lib.compareBytes]
  | x :: a, y :: b => by
    have ih := compare_zero a b
    unfold Lib.compareBytes
    by_cases h1 : x < y
    · have hn : x ≠ y := fun e => by subst e; exact absurd h1 (UInt8.lt_irrefl _)
      simp [h1, hn]
    · by_cases h2 : y < x
      · have hn : x ≠ y := fun e => by subst e; exact absurd h2 (UInt8.lt_irrefl _)
        simp [h1, h2, hn]
      · have he : x = y := UInt8.le_antisymm (UInt8.not_lt.1 h2) (UInt8.not_lt.1 h1)
        subst he
        simp [h1, ih]
theorem cmpB_zero (a b : ByteArray) : Lib.compareBytes a.data.toList b.data.toList = 0 ↔ a = b := by
  rw [compare_zero]
  exact ⟨fun h => by cases a; cases b; simp only [ByteArray.mk.injEq]; exact Array.toList_inj.1 h, fun h => by rw [h]⟩
section
variable {α : Type} {key : α → ByteArray} {l : List α} {x : ByteArray}
theorem pos_up (ha : Asc key l) {m : Nat} (hm : m < l.length) (h : lt (key l[m]) x) : ∀ t (ht : t < l.length), t < m + 1 → lt (key l[t]) x := by
  intro t ht htm
  by_cases e : t = m
  · subst e; exact h
  · exact lt_trans (List.pairwise_iff_getElem.1 ha t m ht hm (by omega)) h
theorem pos_down (ha : Asc key l) {m : Nat} (hm : m < l.length) (h : ¬ lt (key l[m]) x) : ∀ t (ht : t < l.length), m ≤ t → ¬ lt (key l[t]) x := by
  intro t ht hmt hlt
  by_cases e : t = m
  · subst e; exact h hlt
  · exact h (lt_trans (List.pairwise_iff_getElem.1 ha m t hm ht (by omega)) hlt)
theorem pos_none (ha : Asc key l) {p : Nat} (h : PosP key l x p) (hn : ∀ hp : p < l.length, key l[p] ≠ x) : ∀ z ∈ l, key z ≠ x := by
  intro z hz e
  obtain ⟨t, ht, rfl⟩ := List.getElem_of_mem hz
  by_cases h1 : t < p
  · exact lt_ne (h.2.1 t ht h1) e
  · have hp : p < l.length := by omega
    by_cases h2 : t = p
    · subst h2; exact hn ht e
    · have h3 := List.pairwise_iff_getElem.1 ha p t hp ht (by omega)
      rw [e] at h3
      exact h.2.2 p hp (Nat.le_refl _) h3
end


/-! ### Job -/
set_option maxRecDepth 100000 in
theorem svCmpJob_is (x : JobD) (k : ByteArray) (kb : Nat) (w : World) (hk : w.cell? ⟨kb, 0, none⟩ = some (.func (.func 34) #[] #[])) (hkl : kb < w.heap.size) :
    Calls Tryz.prog 115 #[.agg #[.string x.name, .int .i64 x.prio, .int .i64 x.need, .int .i64 x.tries, .string x.tag], .string k, .pointer (some ⟨kb, 0, none⟩)] w fun e w' => e = .returned (.int .i64 (Lib.compareBytes x.name.data.toList k.data.toList)) ∧ Below w.heap.size w w' := by
  have HC := Lib.hid (fun W => Any.strings_Compare Tryz.layCompare x.name k W)
  have bA := below_one w (.cells #[.string x.name, .int .i64 x.prio, .int .i64 x.need, .int .i64 x.tries, .string x.tag] 38)
  have oX := objAt_new w #[.string x.name, .int .i64 x.prio, .int .i64 x.need, .int .i64 x.tries, .string x.tag] 38
  have hk2 : (w.alloc (.cells #[.string x.name, .int .i64 x.prio, .int .i64 x.need, .int .i64 x.tries, .string x.tag] 38)).cell? ⟨kb, 0, none⟩ = some (.func (.func 34) #[] #[]) := by rw [bA.cell (p := ⟨kb, 0, none⟩) hkl]; exact hk
  obtain ⟨W, hW⟩ : ∃ W, w.alloc (.cells #[.string x.name, .int .i64 x.prio, .int .i64 x.need, .int .i64 x.tries, .string x.tag] 38) = W := ⟨_, rfl⟩
  rw [hW] at bA oX hk2
  have x0 := objAt_cell oX 0 rfl
  have x1 := objAt_cell oX 1 rfl
  have x2 := objAt_cell oX 2 rfl
  have x3 := objAt_cell oX 3 rfl
  have x4 := objAt_cell oX 4 rfl
  have BA := Lib.hid bA
  clear bA oX hk
  go_enter Tryz.func115, Tryz.ntmps115
  go_wp2_with fail
  refine (jobKey_eq x _).mono ?_
  rintro e w2 ⟨rfl, rfl⟩
  have b2 := Lib.hid (below_one W (.cells #[.string x.name, .int .i64 x.prio, .int .i64 x.need, .int .i64 x.tries, .string x.tag] 38))
  go_wp2_with fail
  refine (HC.out _).mono ?_
  rintro e w3 ⟨rfl, rfl⟩
  go_wp2
  go_ret
  exact ⟨rfl, below_trans BA.out b2.out BA.out.size⟩
set_option maxRecDepth 100000 in
set_option maxHeartbeats 4000000 in
theorem svBinJob_is (xs : List JobD) (ha : Asc (·.name) xs) (k : ByteArray) (ad : Option Addr) (cap : Nat) (hl : xs.length ≤ 100) (kb : Nat) (w : World) (hk : w.cell? ⟨kb, 0, none⟩ = some (.func (.func 34) #[] #[])) (hkl : kb < w.heap.size) (hx : JobsAt w ad xs) :
    Calls Tryz.prog 114 #[.slice ad xs.length cap, .string k, .func (.func 115) #[] #[.pointer (some ⟨kb, 0, none⟩)]] w fun e w' => ∃ p : Nat, e = .returned (.tuple #[.int .i64 (p : Int), .bool (hasJob xs k)]) ∧ PosP (·.name) xs k p ∧ Below w.heap.size w w' := by
  have HX := Lib.hid hx
  have HA := Lib.hid ha
  have HK := Lib.hid hk
  clear hx ha hk
  go_enter Tryz.func114, Tryz.ntmps114
  go_wp2
  go_loopw [9, 10] (fun iv jv wr => ∃ lo hi : Nat, iv = .int .i64 (lo : Int) ∧ jv = .int .i64 (hi : Int) ∧ lo ≤ hi ∧ hi ≤ xs.length ∧ Hid ((∀ t (h : t < xs.length), t < lo → lt xs[t].name k) ∧ ∀ t (h : t < xs.length), hi ≤ t → ¬ lt xs[t].name k) ∧ Below w.heap.size w wr) (fun iv jv _ => (intOf jv - intOf iv).toNat)
  case atStart => exact ⟨0, xs.length, rfl, rfl, Nat.zero_le _, Nat.le_refl _, ⟨fun t _ h => absurd h (Nat.not_lt_zero _), fun t h h2 => by omega⟩, Below.refl _ _⟩
  case round =>
    obtain ⟨lo, hi, rfl, rfl, hlh, hhi, HI, hbr⟩ := hrel
    by_cases hlt : lo < hi
    · obtain ⟨m, hm⟩ : ∃ m : Nat, (lo + hi) / 2 = m := ⟨_, rfl⟩
      have hmz : ((lo : Int) + (hi : Int)) / 2 = (m : Int) := by omega
      have hml : m < xs.length := by omega
      obtain ⟨a, rfl, hal, k0, k1, k2, k3, k4⟩ := jobsAt_next HX.out hbr m hml
      obtain ⟨y, hy⟩ : ∃ y, xs[m] = y := ⟨_, rfl⟩
      rw [hy] at k0 k1 k2 k3 k4
      have HY := Lib.hid hy
      have hkr : wr.cell? ⟨kb, 0, none⟩ = some (.func (.func 34) #[] #[]) := by rw [hbr.cell (p := ⟨kb, 0, none⟩) hkl]; exact HK.out
      have C1 := svCmpJob_is y k kb wr hkr (Nat.lt_of_lt_of_le hkl hbr.size)
      obtain ⟨c, hc⟩ : ∃ c, Lib.compareBytes y.name.data.toList k.data.toList = c := ⟨_, rfl⟩
      rw [hc] at C1
      have C1 := Lib.hid C1
      have HB := Lib.hid hbr
      clear hy hbr hkr
      by_cases hcl : c < 0
      · have HQ := Lib.hid (show lt xs[m].name k by rw [HY.out]; exact Classical.byContradiction fun z => absurd hcl (by rw [← hc]; exact cmpB_pos z))
        clear hc HY
        go_wp2_with fail
        refine C1.out.mono ?_
        rintro e w2 ⟨rfl, b2⟩
        have B2 := Lib.hid (below_trans HB.out b2 HB.out.size)
        clear b2 k0 k1 k2 k3 k4 hal
        go_wp2
        go_roundw
        case rel => exact ⟨m + 1, hi, by simp, rfl, by omega, hhi, ⟨pos_up HA.out hml HQ.out, HI.out.2⟩, B2.out⟩
        case measure => simp [intOf]; omega
      · have HQ := Lib.hid (show ¬ lt xs[m].name k by rw [HY.out]; exact fun z => hcl (by rw [← hc]; exact cmpB_neg z))
        clear hc HY
        go_wp2_with fail
        refine C1.out.mono ?_
        rintro e w2 ⟨rfl, b2⟩
        have B2 := Lib.hid (below_trans HB.out b2 HB.out.size)
        clear b2 k0 k1 k2 k3 k4 hal
        go_wp2
        go_roundw
        case rel => exact ⟨lo, m, rfl, rfl, by omega, by omega, ⟨HI.out.1, pos_down HA.out hml HQ.out⟩, B2.out⟩
        case measure => simp [intOf]; omega
    · obtain rfl : lo = hi := by omega
      have HP : Hid (PosP (·.name) xs k lo) := ⟨hhi, HI.out⟩
      by_cases hin : lo < xs.length
      · obtain ⟨a, rfl, hal, k0, k1, k2, k3, k4⟩ := jobsAt_next HX.out hbr lo hin
        obtain ⟨y, hy⟩ : ∃ y, xs[lo] = y := ⟨_, rfl⟩
        rw [hy] at k0 k1 k2 k3 k4
        have HY := Lib.hid hy
        have hkr : wr.cell? ⟨kb, 0, none⟩ = some (.func (.func 34) #[] #[]) := by rw [hbr.cell (p := ⟨kb, 0, none⟩) hkl]; exact HK.out
        have C1 := svCmpJob_is y k kb wr hkr (Nat.lt_of_lt_of_le hkl hbr.size)
        obtain ⟨c, hc⟩ : ∃ c, Lib.compareBytes y.name.data.toList k.data.toList = c := ⟨_, rfl⟩
        rw [hc] at C1
        have C1 := Lib.hid C1
        have HB := Lib.hid hbr
        clear hy hbr hkr
        by_cases hcz : c = 0
        · have HF : Hid (hasJob xs k = true) := (hasJob_iff xs k).2 ⟨xs[lo], List.getElem_mem hin, by rw [HY.out]; exact (cmpB_zero _ _).1 (hc.trans hcz)⟩
          subst hcz
          clear hc HY
          go_wp2_with fail
          refine C1.out.mono ?_
          rintro e w2 ⟨rfl, b2⟩
          have B2 := Lib.hid (below_trans HB.out b2 HB.out.size)
          clear b2 k0 k1 k2 k3 k4 hal
          go_wp2
          go_ret2
          exact ⟨lo, by rw [HF.out]; first | rfl | simp, HP.out, B2.out⟩
        · have HF : Hid (hasJob xs k = false) := by
            show _ = _
            cases e : hasJob xs k with
            | false => rfl
            | true =>
              obtain ⟨z, hz, ez⟩ := (hasJob_iff xs k).1 e
              exact absurd ez (pos_none HA.out HP.out (fun hp => by rw [HY.out]; exact fun q => hcz (by rw [← hc]; exact (cmpB_zero _ _).2 q)) z hz)
          have hcb : (c == 0) = false := by simpa using hcz
          clear hc HY
          go_wp2_with fail
          refine C1.out.mono ?_
          rintro e w2 ⟨rfl, b2⟩
          have B2 := Lib.hid (below_trans HB.out b2 HB.out.size)
          clear b2 k0 k1 k2 k3 k4 hal
          go_wp2
          go_ret2
          exact ⟨lo, by rw [HF.out]; first | rfl | simp, HP.out, B2.out⟩
      · have HF : Hid (hasJob xs k = false) := by
          show _ = _
          cases e : hasJob xs k with
          | false => rfl
          | true =>
            obtain ⟨z, hz, ez⟩ := (hasJob_iff xs k).1 e
            exact absurd ez (pos_none HA.out HP.out (fun hp => absurd hp hin) z hz)
        have HB := Lib.hid hbr
        clear hbr
        go_wp2
        go_ret2
        exact ⟨lo, by rw [HF.out]; first | rfl | simp, HP.out, HB.out⟩
set_option maxRecDepth 100000 in
theorem svFindJob_is (xs : List JobD) (ha : Asc (·.name) xs) (k : ByteArray) (ad : Option Addr) (cap : Nat) (hl : xs.length ≤ 100) (w : World) (hx : JobsAt w ad xs) :
    Calls Tryz.prog 96 #[.slice ad xs.length cap, .string k, .func (.func 34) #[] #[]] w fun e w' => ∃ p : Nat, e = .returned (.tuple #[.int .i64 (p : Int), .bool (hasJob xs k)]) ∧ PosP (·.name) xs k p ∧ Below w.heap.size w w' := by
  have bA := below_one w (.cells #[.func (.func 34) #[] #[]] 77)
  have oK := objAt_new w #[.func (.func 34) #[] #[]] 77
  have C1 := Lib.hid (svBinJob_is xs ha k ad cap hl w.heap.size _ (objAt_cell oK 0 rfl) (objAt_lt oK) (jobsAt_next hx bA))
  have BA := Lib.hid bA
  clear bA oK hx
  go_enter Tryz.func96, Tryz.ntmps96
  go_wp2_with fail
  refine C1.out.mono ?_
  rintro e w2 ⟨p, rfl, hp, b2⟩
  have HP := Lib.hid hp
  have B2 := Lib.hid (below_trans BA.out b2 BA.out.size)
  clear b2 hp
  go_wp2
  go_ret2
  exact ⟨p, rfl, HP.out, B2.out⟩

/-! ### Node -/
set_option maxRecDepth 100000 in
theorem svCmpNode_is (x : NodeD) (k : ByteArray) (kb : Nat) (w : World) (hk : w.cell? ⟨kb, 0, none⟩ = some (.func (.func 37) #[] #[])) (hkl : kb < w.heap.size) :
    Calls Tryz.prog 119 #[.agg #[.string x.name, .int .i64 x.room, .string x.zone], .string k, .pointer (some ⟨kb, 0, none⟩)] w fun e w' => e = .returned (.int .i64 (Lib.compareBytes x.name.data.toList k.data.toList)) ∧ Below w.heap.size w w' := by
  have HC := Lib.hid (fun W => Any.strings_Compare Tryz.layCompare x.name k W)
  have bA := below_one w (.cells #[.string x.name, .int .i64 x.room, .string x.zone] 40)
  have oX := objAt_new w #[.string x.name, .int .i64 x.room, .string x.zone] 40
  have hk2 : (w.alloc (.cells #[.string x.name, .int .i64 x.room, .string x.zone] 40)).cell? ⟨kb, 0, none⟩ = some (.func (.func 37) #[] #[]) := by rw [bA.cell (p := ⟨kb, 0, none⟩) hkl]; exact hk
  obtain ⟨W, hW⟩ : ∃ W, w.alloc (.cells #[.string x.name, .int .i64 x.room, .string x.zone] 40) = W := ⟨_, rfl⟩
  rw [hW] at bA oX hk2
  have x0 := objAt_cell oX 0 rfl
  have x1 := objAt_cell oX 1 rfl
  have x2 := objAt_cell oX 2 rfl
  have BA := Lib.hid bA
  clear bA oX hk
  go_enter Tryz.func119, Tryz.ntmps119
  go_wp2_with fail
  refine (nodeKey_eq x _).mono ?_
  rintro e w2 ⟨rfl, rfl⟩
  have b2 := Lib.hid (below_one W (.cells #[.string x.name, .int .i64 x.room, .string x.zone] 40))
  go_wp2_with fail
  refine (HC.out _).mono ?_
  rintro e w3 ⟨rfl, rfl⟩
  go_wp2
  go_ret
  exact ⟨rfl, below_trans BA.out b2.out BA.out.size⟩
set_option maxRecDepth 100000 in
set_option maxHeartbeats 4000000 in
theorem svBinNode_is (xs : List NodeD) (ha : Asc (·.name) xs) (k : ByteArray) (ad : Option Addr) (cap : Nat) (hl : xs.length ≤ 100) (kb : Nat) (w : World) (hk : w.cell? ⟨kb, 0, none⟩ = some (.func (.func 37) #[] #[])) (hkl : kb < w.heap.size) (hx : NodesAt w ad xs) :
    Calls Tryz.prog 118 #[.slice ad xs.length cap, .string k, .func (.func 119) #[] #[.pointer (some ⟨kb, 0, none⟩)]] w fun e w' => ∃ p : Nat, e = .returned (.tuple #[.int .i64 (p : Int), .bool (hasNode xs k)]) ∧ PosP (·.name) xs k p ∧ Below w.heap.size w w' := by
  have HX := Lib.hid hx
  have HA := Lib.hid ha
  have HK := Lib.hid hk
  clear hx ha hk
  go_enter Tryz.func118, Tryz.ntmps118
  go_wp2
  go_loopw [9, 10] (fun iv jv wr => ∃ lo hi : Nat, iv = .int .i64 (lo : Int) ∧ jv = .int .i64 (hi : Int) ∧ lo ≤ hi ∧ hi ≤ xs.length ∧ Hid ((∀ t (h : t < xs.length), t < lo → lt xs[t].name k) ∧ ∀ t (h : t < xs.length), hi ≤ t → ¬ lt xs[t].name k) ∧ Below w.heap.size w wr) (fun iv jv _ => (intOf jv - intOf iv).toNat)
  case atStart => exact ⟨0, xs.length, rfl, rfl, Nat.zero_le _, Nat.le_refl _, ⟨fun t _ h => absurd h (Nat.not_lt_zero _), fun t h h2 => by omega⟩, Below.refl _ _⟩
  case round =>
    obtain ⟨lo, hi, rfl, rfl, hlh, hhi, HI, hbr⟩ := hrel
    by_cases hlt : lo < hi
    · obtain ⟨m, hm⟩ : ∃ m : Nat, (lo + hi) / 2 = m := ⟨_, rfl⟩
      have hmz : ((lo : Int) + (hi : Int)) / 2 = (m : Int) := by omega
      have hml : m < xs.length := by omega
      obtain ⟨a, rfl, hal, k0, k1, k2⟩ := nodesAt_next HX.out hbr m hml
      obtain ⟨y, hy⟩ : ∃ y, xs[m] = y := ⟨_, rfl⟩
      rw [hy] at k0 k1 k2
      have HY := Lib.hid hy
      have hkr : wr.cell? ⟨kb, 0, none⟩ = some (.func (.func 37) #[] #[]) := by rw [hbr.cell (p := ⟨kb, 0, none⟩) hkl]; exact HK.out
      have C1 := svCmpNode_is y k kb wr hkr (Nat.lt_of_lt_of_le hkl hbr.size)
      obtain ⟨c, hc⟩ : ∃ c, Lib.compareBytes y.name.data.toList k.data.toList = c := ⟨_, rfl⟩
      rw [hc] at C1
      have C1 := Lib.hid C1
      have HB := Lib.hid hbr
      clear hy hbr hkr
      by_cases hcl : c < 0
      · have HQ := Lib.hid (show lt xs[m].name k by rw [HY.out]; exact Classical.byContradiction fun z => absurd hcl (by rw [← hc]; exact cmpB_pos z))
        clear hc HY
        go_wp2_with fail
        refine C1.out.mono ?_
        rintro e w2 ⟨rfl, b2⟩
        have B2 := Lib.hid (below_trans HB.out b2 HB.out.size)
        clear b2 k0 k1 k2 hal
        go_wp2
        go_roundw
        case rel => exact ⟨m + 1, hi, by simp, rfl, by omega, hhi, ⟨pos_up HA.out hml HQ.out, HI.out.2⟩, B2.out⟩
        case measure => simp [intOf]; omega
      · have HQ := Lib.hid (show ¬ lt xs[m].name k by rw [HY.out]; exact fun z => hcl (by rw [← hc]; exact cmpB_neg z))
        clear hc HY
        go_wp2_with fail
        refine C1.out.mono ?_
        rintro e w2 ⟨rfl, b2⟩
        have B2 := Lib.hid (below_trans HB.out b2 HB.out.size)
        clear b2 k0 k1 k2 hal
        go_wp2
        go_roundw
        case rel => exact ⟨lo, m, rfl, rfl, by omega, by omega, ⟨HI.out.1, pos_down HA.out hml HQ.out⟩, B2.out⟩
        case measure => simp [intOf]; omega
    · obtain rfl : lo = hi := by omega
      have HP : Hid (PosP (·.name) xs k lo) := ⟨hhi, HI.out⟩
      by_cases hin : lo < xs.length
      · obtain ⟨a, rfl, hal, k0, k1, k2⟩ := nodesAt_next HX.out hbr lo hin
        obtain ⟨y, hy⟩ : ∃ y, xs[lo] = y := ⟨_, rfl⟩
        rw [hy] at k0 k1 k2
        have HY := Lib.hid hy
        have hkr : wr.cell? ⟨kb, 0, none⟩ = some (.func (.func 37) #[] #[]) := by rw [hbr.cell (p := ⟨kb, 0, none⟩) hkl]; exact HK.out
        have C1 := svCmpNode_is y k kb wr hkr (Nat.lt_of_lt_of_le hkl hbr.size)
        obtain ⟨c, hc⟩ : ∃ c, Lib.compareBytes y.name.data.toList k.data.toList = c := ⟨_, rfl⟩
        rw [hc] at C1
        have C1 := Lib.hid C1
        have HB := Lib.hid hbr
        clear hy hbr hkr
        by_cases hcz : c = 0
        · have HF : Hid (hasNode xs k = true) := (hasNode_iff xs k).2 ⟨xs[lo], List.getElem_mem hin, by rw [HY.out]; exact (cmpB_zero _ _).1 (hc.trans hcz)⟩
          subst hcz
          clear hc HY
          go_wp2_with fail
          refine C1.out.mono ?_
          rintro e w2 ⟨rfl, b2⟩
          have B2 := Lib.hid (below_trans HB.out b2 HB.out.size)
          clear b2 k0 k1 k2 hal
          go_wp2
          go_ret2
          exact ⟨lo, by rw [HF.out]; first | rfl | simp, HP.out, B2.out⟩
        · have HF : Hid (hasNode xs k = false) := by
            show _ = _
            cases e : hasNode xs k with
            | false => rfl
            | true =>
              obtain ⟨z, hz, ez⟩ := (hasNode_iff xs k).1 e
              exact absurd ez (pos_none HA.out HP.out (fun hp => by rw [HY.out]; exact fun q => hcz (by rw [← hc]; exact (cmpB_zero _ _).2 q)) z hz)
          have hcb : (c == 0) = false := by simpa using hcz
          clear hc HY
          go_wp2_with fail
          refine C1.out.mono ?_
          rintro e w2 ⟨rfl, b2⟩
          have B2 := Lib.hid (below_trans HB.out b2 HB.out.size)
          clear b2 k0 k1 k2 hal
          go_wp2
          go_ret2
          exact ⟨lo, by rw [HF.out]; first | rfl | simp, HP.out, B2.out⟩
      · have HF : Hid (hasNode xs k = false) := by
          show _ = _
          cases e : hasNode xs k with
          | false => rfl
          | true =>
            obtain ⟨z, hz, ez⟩ := (hasNode_iff xs k).1 e
            exact absurd ez (pos_none HA.out HP.out (fun hp => absurd hp hin) z hz)
        have HB := Lib.hid hbr
        clear hbr
        go_wp2
        go_ret2
        exact ⟨lo, by rw [HF.out]; first | rfl | simp, HP.out, HB.out⟩
set_option maxRecDepth 100000 in
theorem svFindNode_is (xs : List NodeD) (ha : Asc (·.name) xs) (k : ByteArray) (ad : Option Addr) (cap : Nat) (hl : xs.length ≤ 100) (w : World) (hx : NodesAt w ad xs) :
    Calls Tryz.prog 98 #[.slice ad xs.length cap, .string k, .func (.func 37) #[] #[]] w fun e w' => ∃ p : Nat, e = .returned (.tuple #[.int .i64 (p : Int), .bool (hasNode xs k)]) ∧ PosP (·.name) xs k p ∧ Below w.heap.size w w' := by
  have bA := below_one w (.cells #[.func (.func 37) #[] #[]] 80)
  have oK := objAt_new w #[.func (.func 37) #[] #[]] 80
  have C1 := Lib.hid (svBinNode_is xs ha k ad cap hl w.heap.size _ (objAt_cell oK 0 rfl) (objAt_lt oK) (nodesAt_next hx bA))
  have BA := Lib.hid bA
  clear bA oK hx
  go_enter Tryz.func98, Tryz.ntmps98
  go_wp2_with fail
  refine C1.out.mono ?_
  rintro e w2 ⟨p, rfl, hp, b2⟩
  have HP := Lib.hid hp
  have B2 := Lib.hid (below_trans BA.out b2 BA.out.size)
  clear b2 hp
  go_wp2
  go_ret2
  exact ⟨p, rfl, HP.out, B2.out⟩

/-! ### Lease -/
set_option maxRecDepth 100000 in
theorem svCmpLease_is (x : LeaseD) (k : ByteArray) (kb : Nat) (w : World) (hk : w.cell? ⟨kb, 0, none⟩ = some (.func (.func 41) #[] #[])) (hkl : kb < w.heap.size) :
    Calls Tryz.prog 124 #[.agg #[.string x.job, .string x.node, .int .i64 x.til], .string k, .pointer (some ⟨kb, 0, none⟩)] w fun e w' => e = .returned (.int .i64 (Lib.compareBytes x.job.data.toList k.data.toList)) ∧ Below w.heap.size w w' := by
  have HC := Lib.hid (fun W => Any.strings_Compare Tryz.layCompare x.job k W)
  have bA := below_one w (.cells #[.string x.job, .string x.node, .int .i64 x.til] 42)
  have oX := objAt_new w #[.string x.job, .string x.node, .int .i64 x.til] 42
  have hk2 : (w.alloc (.cells #[.string x.job, .string x.node, .int .i64 x.til] 42)).cell? ⟨kb, 0, none⟩ = some (.func (.func 41) #[] #[]) := by rw [bA.cell (p := ⟨kb, 0, none⟩) hkl]; exact hk
  obtain ⟨W, hW⟩ : ∃ W, w.alloc (.cells #[.string x.job, .string x.node, .int .i64 x.til] 42) = W := ⟨_, rfl⟩
  rw [hW] at bA oX hk2
  have x0 := objAt_cell oX 0 rfl
  have x1 := objAt_cell oX 1 rfl
  have x2 := objAt_cell oX 2 rfl
  have BA := Lib.hid bA
  clear bA oX hk
  go_enter Tryz.func124, Tryz.ntmps124
  go_wp2_with fail
  refine (leaseKey_eq x _).mono ?_
  rintro e w2 ⟨rfl, rfl⟩
  have b2 := Lib.hid (below_one W (.cells #[.string x.job, .string x.node, .int .i64 x.til] 42))
  go_wp2_with fail
  refine (HC.out _).mono ?_
  rintro e w3 ⟨rfl, rfl⟩
  go_wp2
  go_ret
  exact ⟨rfl, below_trans BA.out b2.out BA.out.size⟩
set_option maxRecDepth 100000 in
set_option maxHeartbeats 4000000 in
theorem svBinLease_is (xs : List LeaseD) (ha : Asc (·.job) xs) (k : ByteArray) (ad : Option Addr) (cap : Nat) (hl : xs.length ≤ 100) (kb : Nat) (w : World) (hk : w.cell? ⟨kb, 0, none⟩ = some (.func (.func 41) #[] #[])) (hkl : kb < w.heap.size) (hx : LeasesAt w ad xs) :
    Calls Tryz.prog 123 #[.slice ad xs.length cap, .string k, .func (.func 124) #[] #[.pointer (some ⟨kb, 0, none⟩)]] w fun e w' => ∃ p : Nat, e = .returned (.tuple #[.int .i64 (p : Int), .bool (hasLease xs k)]) ∧ PosP (·.job) xs k p ∧ Below w.heap.size w w' := by
  have HX := Lib.hid hx
  have HA := Lib.hid ha
  have HK := Lib.hid hk
  clear hx ha hk
  go_enter Tryz.func123, Tryz.ntmps123
  go_wp2
  go_loopw [9, 10] (fun iv jv wr => ∃ lo hi : Nat, iv = .int .i64 (lo : Int) ∧ jv = .int .i64 (hi : Int) ∧ lo ≤ hi ∧ hi ≤ xs.length ∧ Hid ((∀ t (h : t < xs.length), t < lo → lt xs[t].job k) ∧ ∀ t (h : t < xs.length), hi ≤ t → ¬ lt xs[t].job k) ∧ Below w.heap.size w wr) (fun iv jv _ => (intOf jv - intOf iv).toNat)
  case atStart => exact ⟨0, xs.length, rfl, rfl, Nat.zero_le _, Nat.le_refl _, ⟨fun t _ h => absurd h (Nat.not_lt_zero _), fun t h h2 => by omega⟩, Below.refl _ _⟩
  case round =>
    obtain ⟨lo, hi, rfl, rfl, hlh, hhi, HI, hbr⟩ := hrel
    by_cases hlt : lo < hi
    · obtain ⟨m, hm⟩ : ∃ m : Nat, (lo + hi) / 2 = m := ⟨_, rfl⟩
      have hmz : ((lo : Int) + (hi : Int)) / 2 = (m : Int) := by omega
      have hml : m < xs.length := by omega
      obtain ⟨a, rfl, hal, k0, k1, k2⟩ := leasesAt_next HX.out hbr m hml
      obtain ⟨y, hy⟩ : ∃ y, xs[m] = y := ⟨_, rfl⟩
      rw [hy] at k0 k1 k2
      have HY := Lib.hid hy
      have hkr : wr.cell? ⟨kb, 0, none⟩ = some (.func (.func 41) #[] #[]) := by rw [hbr.cell (p := ⟨kb, 0, none⟩) hkl]; exact HK.out
      have C1 := svCmpLease_is y k kb wr hkr (Nat.lt_of_lt_of_le hkl hbr.size)
      obtain ⟨c, hc⟩ : ∃ c, Lib.compareBytes y.job.data.toList k.data.toList = c := ⟨_, rfl⟩
      rw [hc] at C1
      have C1 := Lib.hid C1
      have HB := Lib.hid hbr
      clear hy hbr hkr
      by_cases hcl : c < 0
      · have HQ := Lib.hid (show lt xs[m].job k by rw [HY.out]; exact Classical.byContradiction fun z => absurd hcl (by rw [← hc]; exact cmpB_pos z))
        clear hc HY
        go_wp2_with fail
        refine C1.out.mono ?_
        rintro e w2 ⟨rfl, b2⟩
        have B2 := Lib.hid (below_trans HB.out b2 HB.out.size)
        clear b2 k0 k1 k2 hal
        go_wp2
        go_roundw
        case rel => exact ⟨m + 1, hi, by simp, rfl, by omega, hhi, ⟨pos_up HA.out hml HQ.out, HI.out.2⟩, B2.out⟩
        case measure => simp [intOf]; omega
      · have HQ := Lib.hid (show ¬ lt xs[m].job k by rw [HY.out]; exact fun z => hcl (by rw [← hc]; exact cmpB_neg z))
        clear hc HY
        go_wp2_with fail
        refine C1.out.mono ?_
        rintro e w2 ⟨rfl, b2⟩
        have B2 := Lib.hid (below_trans HB.out b2 HB.out.size)
        clear b2 k0 k1 k2 hal
        go_wp2
        go_roundw
        case rel => exact ⟨lo, m, rfl, rfl, by omega, by omega, ⟨HI.out.1, pos_down HA.out hml HQ.out⟩, B2.out⟩
        case measure => simp [intOf]; omega
    · obtain rfl : lo = hi := by omega
      have HP : Hid (PosP (·.job) xs k lo) := ⟨hhi, HI.out⟩
      by_cases hin : lo < xs.length
      · obtain ⟨a, rfl, hal, k0, k1, k2⟩ := leasesAt_next HX.out hbr lo hin
        obtain ⟨y, hy⟩ : ∃ y, xs[lo] = y := ⟨_, rfl⟩
        rw [hy] at k0 k1 k2
        have HY := Lib.hid hy
        have hkr : wr.cell? ⟨kb, 0, none⟩ = some (.func (.func 41) #[] #[]) := by rw [hbr.cell (p := ⟨kb, 0, none⟩) hkl]; exact HK.out
        have C1 := svCmpLease_is y k kb wr hkr (Nat.lt_of_lt_of_le hkl hbr.size)
        obtain ⟨c, hc⟩ : ∃ c, Lib.compareBytes y.job.data.toList k.data.toList = c := ⟨_, rfl⟩
        rw [hc] at C1
        have C1 := Lib.hid C1
        have HB := Lib.hid hbr
        clear hy hbr hkr
        by_cases hcz : c = 0
        · have HF : Hid (hasLease xs k = true) := (hasLease_iff xs k).2 ⟨xs[lo], List.getElem_mem hin, by rw [HY.out]; exact (cmpB_zero _ _).1 (hc.trans hcz)⟩
          subst hcz
          clear hc HY
          go_wp2_with fail
          refine C1.out.mono ?_
          rintro e w2 ⟨rfl, b2⟩
          have B2 := Lib.hid (below_trans HB.out b2 HB.out.size)
          clear b2 k0 k1 k2 hal
          go_wp2
          go_ret2
          exact ⟨lo, by rw [HF.out]; first | rfl | simp, HP.out, B2.out⟩
        · have HF : Hid (hasLease xs k = false) := by
            show _ = _
            cases e : hasLease xs k with
            | false => rfl
            | true =>
              obtain ⟨z, hz, ez⟩ := (hasLease_iff xs k).1 e
              exact absurd ez (pos_none HA.out HP.out (fun hp => by rw [HY.out]; exact fun q => hcz (by rw [← hc]; exact (cmpB_zero _ _).2 q)) z hz)
          have hcb : (c == 0) = false := by simpa using hcz
          clear hc HY
          go_wp2_with fail
          refine C1.out.mono ?_
          rintro e w2 ⟨rfl, b2⟩
          have B2 := Lib.hid (below_trans HB.out b2 HB.out.size)
          clear b2 k0 k1 k2 hal
          go_wp2
          go_ret2
          exact ⟨lo, by rw [HF.out]; first | rfl | simp, HP.out, B2.out⟩
      · have HF : Hid (hasLease xs k = false) := by
          show _ = _
          cases e : hasLease xs k with
          | false => rfl
          | true =>
            obtain ⟨z, hz, ez⟩ := (hasLease_iff xs k).1 e
            exact absurd ez (pos_none HA.out HP.out (fun hp => absurd hp hin) z hz)
        have HB := Lib.hid hbr
        clear hbr
        go_wp2
        go_ret2
        exact ⟨lo, by rw [HF.out]; first | rfl | simp, HP.out, HB.out⟩
set_option maxRecDepth 100000 in
theorem svFindLease_is (xs : List LeaseD) (ha : Asc (·.job) xs) (k : ByteArray) (ad : Option Addr) (cap : Nat) (hl : xs.length ≤ 100) (w : World) (hx : LeasesAt w ad xs) :
    Calls Tryz.prog 103 #[.slice ad xs.length cap, .string k, .func (.func 41) #[] #[]] w fun e w' => ∃ p : Nat, e = .returned (.tuple #[.int .i64 (p : Int), .bool (hasLease xs k)]) ∧ PosP (·.job) xs k p ∧ Below w.heap.size w w' := by
  have bA := below_one w (.cells #[.func (.func 41) #[] #[]] 88)
  have oK := objAt_new w #[.func (.func 41) #[] #[]] 88
  have C1 := Lib.hid (svBinLease_is xs ha k ad cap hl w.heap.size _ (objAt_cell oK 0 rfl) (objAt_lt oK) (leasesAt_next hx bA))
  have BA := Lib.hid bA
  clear bA oK hx
  go_enter Tryz.func103, Tryz.ntmps103
  go_wp2_with fail
  refine C1.out.mono ?_
  rintro e w2 ⟨p, rfl, hp, b2⟩
  have HP := Lib.hid hp
  have B2 := Lib.hid (below_trans BA.out b2 BA.out.size)
  clear b2 hp
  go_wp2
  go_ret2
  exact ⟨p, rfl, HP.out, B2.out⟩
end Go.Proofs.YtiekgafopalfmaaGreatDoor

/- slices.Grow of nil, slices.Concat of rows. -/
namespace Go.Proofs.YtiekgafopalfmaaGreatDoor
open Go.RowKit Go.Lib

/-- A new row of zeros, cut to nothing, is owned. -/
theorem own_room {e sz n : Nat} (w : World) (z : Array Value) (hz : z.size = sz) (hn : n ≤ 1000) : (w.drew.alloc (.cells (Builtin.zeroCells z n ++ Builtin.zeroCells z (grownCap w n 0 e - n)) e)).ownsRow w.heap.size e sz (.slice (some ⟨w.heap.size, 0, none⟩) 0 (grownCap w n 0 e)) 0 [] := by
  have h1 := grownCap_ge w n 0 e
  refine ⟨by simp, .inr ⟨w.heap.size, _, _, rfl, Nat.le_refl _, heap_alloc_new w.drew _, Nat.zero_le _, grownCap_le_maxLen w n 0 e (by unfold maxLen; omega), ?_, by simp⟩⟩
  rw [Array.size_append, size_zeroCells, size_zeroCells, hz, ← Nat.add_mul, Nat.add_sub_cancel' h1]


/-! ### Job -/
set_option maxRecDepth 100000 in
theorem svGrowJob_is (n : Nat) (hn : n ≤ 1000) (w : World) : Calls Tryz.prog 117 #[.slice none 0 0, .int .i64 (n : Int)] w fun e w' => ∃ ad cap, e = .returned (.slice ad 0 cap) ∧ w'.ownsRow w.heap.size 38 5 (.slice ad 0 cap) 0 [] ∧ Below w.heap.size w w' := by
  obtain ⟨i0, qi, qz0, qz1, qz2⟩ := info_parts' Tryz.info_job
  by_cases h0 : n = 0
  · subst h0
    clear qi qz0 qz1 qz2
    go_enter Tryz.func117, Tryz.ntmps117
    go_wp2
    go_ret
    exact ⟨none, 0, rfl, World.ownsRow_nil _ _ _ _, Below.refl _ _⟩
  · have HO := Lib.hid (own_room (e := 38) (sz := 5) (n := n) w #[.string ⟨#[]⟩, .int .i64 0, .int .i64 0, .int .i64 0, .string ⟨#[]⟩] rfl hn)
    have HR := Lib.hid (fun ty => Lib.run_append_nil_zeros (P := Tryz.prog) w 22 3 ty 38 i0 _ .i64 .i64 Tryz.underlying22 Tryz.underlying3 qi qz0 n (by omega) (by rw [qz1]; decide) (by omega) (by rw [qz2]; omega))
    clear qi qz0 qz1 qz2
    have hlt : (0 : Int) < (n : Int) := by omega
    have hnn : ¬ ((n : Int) < 0) := by omega
    go_enter Tryz.func117, Tryz.ntmps117
    go_wp2_with (at_builtin; refine Lib.wpList_append_run _ rfl _ _ _ _ rfl _ _ rfl rfl _ _ (HR.out _) ?_)
    have B2 : Below w.heap.size w (w.drew.alloc (.cells (Builtin.zeroCells #[.string ⟨#[]⟩, .int .i64 0, .int .i64 0, .int .i64 0, .string ⟨#[]⟩] n ++ Builtin.zeroCells #[.string ⟨#[]⟩, .int .i64 0, .int .i64 0, .int .i64 0, .string ⟨#[]⟩] (grownCap w n 0 38 - n)) 38)) := (Below.refl w.heap.size w).drew.alloc (Nat.le_refl _) _
    have B2 := Lib.hid B2
    go_wp2
    go_ret
    exact ⟨_, _, rfl, HO.out, B2.out⟩
/-- Rows beside each other, to be joined. -/
def catJob (ps : List (Option Addr × List JobD × Nat)) : List JobD := ps.flatMap (·.2.1)
def PartsJob (w : World) (ob : Nat) (ps : List (Option Addr × List JobD × Nat)) : Prop := ob < w.heap.size ∧ ∀ i (h : i < ps.length), w.cell? ⟨ob, i, none⟩ = some (.slice ps[i].1 ps[i].2.1.length ps[i].2.2) ∧ JobsAt w ps[i].1 ps[i].2.1
theorem partsJob_next {w w' : World} {ob : Nat} {ps : List (Option Addr × List JobD × Nat)} (h : PartsJob w ob ps) (hb : Below w.heap.size w w') : PartsJob w' ob ps := ⟨Nat.lt_of_lt_of_le h.1 hb.size, fun i hi => ⟨by rw [hb.cell (p := ⟨ob, i, none⟩) h.1]; exact (h.2 i hi).1, jobsAt_next (h.2 i hi).2 hb⟩⟩
theorem catJob_take (ps : List (Option Addr × List JobD × Nat)) {i : Nat} (h : i < ps.length) : catJob (ps.take (i + 1)) = catJob (ps.take i) ++ ps[i].2.1 := by
  unfold catJob; rw [List.take_succ_eq_append_getElem h, List.flatMap_append]; simp
theorem catJob_le (ps : List (Option Addr × List JobD × Nat)) (i : Nat) : (catJob (ps.take i)).length ≤ (catJob ps).length := by
  have : catJob ps = catJob (ps.take i) ++ catJob (ps.drop i) := by unfold catJob; rw [← List.flatMap_append, List.take_append_drop]
  rw [this, List.length_append]; omega
set_option maxRecDepth 100000 in
set_option maxHeartbeats 4000000 in
theorem svCatJob_is (ps : List (Option Addr × List JobD × Nat)) (ob c : Nat) (hl : (catJob ps).length ≤ 1000) (hp : ps.length ≤ 10) (w : World) (hx : PartsJob w ob ps) :
    Calls Tryz.prog 97 #[.slice (some ⟨ob, 0, none⟩) ps.length c] w fun e w' => ∃ ad cap, e = .returned (.slice ad (catJob ps).length cap) ∧ w'.ownsRow w.heap.size 38 5 (.slice ad (catJob ps).length cap) (catJob ps).length (cJobs (catJob ps)) ∧ Below w.heap.size w w' := by
  obtain ⟨i0, qi, qz0, qz1, qz2⟩ := info_parts' Tryz.info_job
  have Hi := Lib.hid qi
  have Hz0 := Lib.hid qz0
  have Hz1 := Lib.hid qz1
  have Hz2 := Lib.hid qz2
  have HX := Lib.hid hx
  clear qi qz0 qz1 qz2 hx
  go_enter Tryz.func97, Tryz.ntmps97
  go_wp2
  go_loopw [3, 11] (fun sv iv wr => ∃ i : Nat, iv = .int .i64 (i : Int) ∧ sv = .int .i64 ((catJob (ps.take i)).length : Int) ∧ i ≤ ps.length ∧ Below w.heap.size w wr) (fun _ iv _ => ps.length - (intOf iv).toNat)
  case atStart => exact ⟨0, rfl, by simp [catJob], Nat.zero_le _, Below.refl _ _⟩
  case round =>
    obtain ⟨i, rfl, rfl, hi, hbr⟩ := hrel
    by_cases h : (i : Int) < (ps.length : Int)
    case pos =>
      have hil : i < ps.length := by omega
      obtain ⟨k0, _⟩ := (partsJob_next HX.out hbr).2 i hil
      have hob := (partsJob_next HX.out hbr).1
      have hE := catJob_take ps hil
      have hE2 := catJob_le ps (i + 1)
      rw [hE, List.length_append] at hE2
      obtain ⟨⟨pa, pl, pc⟩, hpi⟩ : ∃ p, ps[i] = p := ⟨_, rfl⟩
      rw [hpi] at k0 hE hE2
      simp only at k0 hE hE2
      have HE : Hid ((catJob (ps.take (i + 1))).length = (catJob (ps.take i)).length + pl.length) := by show _ = _; rw [hE, List.length_append]
      obtain ⟨L, hL⟩ : ∃ L, (catJob (ps.take i)).length = L := ⟨_, rfl⟩
      rw [hL] at HE hE2 ⊢
      have hnn : ¬ ((L : Int) + (pl.length : Int) < 0) := by omega
      have HB := Lib.hid hbr
      clear hE hbr hpi hL
      go_wp2
      go_roundw
      case rel => exact ⟨i + 1, by simp, by rw [HE.out]; simp, by omega, HB.out⟩
      case measure => simp [intOf]; omega
    case neg =>
      obtain rfl : i = ps.length := by omega
      rw [List.take_length]
      have C1 := Lib.hid (svGrowJob_is (catJob ps).length hl wr)
      have HB := Lib.hid hbr
      clear hbr hi h
      go_wp2_with fail
      refine C1.out.mono ?_
      rintro e w1 ⟨pad, pcap, rfl, own0, b1⟩
      have B1 := Lib.hid (below_trans HB.out b1 HB.out.size)
      have O0 := Lib.hid (ownsRow_low own0 HB.out.size)
      clear own0 b1 C1
      go_wp2
      go_loopw [6, 27] (fun pv iv wr => ∃ i : Nat, iv = .int .i64 (i : Int) ∧ i ≤ ps.length ∧ wr.ownsRow w.heap.size 38 5 pv (catJob (ps.take i)).length (cJobs (catJob (ps.take i))) ∧ Below w.heap.size w wr) (fun _ iv _ => ps.length - (intOf iv).toNat)
      case atStart => exact ⟨0, rfl, Nat.zero_le _, by simpa [catJob, cJobs] using O0.out, B1.out⟩
      case round =>
        obtain ⟨i, rfl, hi, own, hbr⟩ := hrel
        obtain ⟨n0, hn0⟩ : ∃ n0, (catJob (ps.take i)).length = n0 := ⟨_, rfl⟩
        rw [hn0] at own
        obtain ⟨qad, qcap, rfl⟩ := ownRow_slice own
        by_cases h : (i : Int) < (ps.length : Int)
        case pos =>
          subst hn0
          have hil : i < ps.length := by omega
          obtain ⟨k0, ka⟩ := (partsJob_next HX.out hbr).2 i hil
          have hob := (partsJob_next HX.out hbr).1
          have hE := catJob_take ps hil
          have hE2 := catJob_le ps (i + 1)
          rw [hE, List.length_append] at hE2
          obtain ⟨⟨pa, pl, pc⟩, hpi⟩ : ∃ p, ps[i] = p := ⟨_, rfl⟩
          rw [hpi] at k0 hE hE2 ka
          simp only at k0 hE hE2 ka
          have HE := Lib.hid hE
          obtain ⟨L, hL⟩ : ∃ L, catJob (ps.take i) = L := ⟨_, rfl⟩
          rw [hL] at HE hE2 own ⊢
          have HB := Lib.hid hbr
          have OW := Lib.hid own
          have KA := Lib.hid ka
          clear hE hbr hpi hL own ka
          go_wp2_with (at_builtin; refine wpList_app rfl _ _ 22 rfl w.heap.size 38 i0 _ 5 56 Tryz.underlying22 Hi.out Hz0.out Hz1.out Hz2.out rfl (by decide) _ _ _ rfl OW.out _ _ _ (cJobs pl) rfl ?c1 ?c2 ?c3 ?c4 ?c5 ?c6 ?_)
          case c1 => rw [cJobs_length]
          case c2 => exact src_job KA.out
          case c3 => exact cJobs_ones pl
          case c4 => unfold maxLen; omega
          case c5 => omega
          case c6 => exact HB.out.size
          intro v' w1 own1 hg _
          have B2 := Lib.hid (HB.out.grown hg HB.out.size (fun k hk => (OW.out.lt k hk).1))
          rw [← cJobs_append, ← List.length_append] at own1
          obtain ⟨ad2, cap2, rfl⟩ := ownRow_slice own1
          have O1 := Lib.hid own1
          clear own1 hg
          go_wp2
          go_roundw
          case rel => exact ⟨i + 1, by simp, by omega, by rw [HE.out]; exact O1.out, B2.out⟩
          case measure => simp [intOf]; omega
        case neg =>
          obtain rfl : i = ps.length := by omega
          rw [List.take_length] at own hn0
          subst hn0
          have Q := Lib.hid (And.intro own hbr)
          clear own hbr hi h
          go_wp2
          go_ret
          exact ⟨qad, qcap, rfl, Q.out⟩

/-! ### Node -/
set_option maxRecDepth 100000 in
theorem svGrowNode_is (n : Nat) (hn : n ≤ 1000) (w : World) : Calls Tryz.prog 120 #[.slice none 0 0, .int .i64 (n : Int)] w fun e w' => ∃ ad cap, e = .returned (.slice ad 0 cap) ∧ w'.ownsRow w.heap.size 40 3 (.slice ad 0 cap) 0 [] ∧ Below w.heap.size w w' := by
  obtain ⟨i0, qi, qz0, qz1, qz2⟩ := info_parts' Tryz.info_node
  by_cases h0 : n = 0
  · subst h0
    clear qi qz0 qz1 qz2
    go_enter Tryz.func120, Tryz.ntmps120
    go_wp2
    go_ret
    exact ⟨none, 0, rfl, World.ownsRow_nil _ _ _ _, Below.refl _ _⟩
  · have HO := Lib.hid (own_room (e := 40) (sz := 3) (n := n) w #[.string ⟨#[]⟩, .int .i64 0, .string ⟨#[]⟩] rfl hn)
    have HR := Lib.hid (fun ty => Lib.run_append_nil_zeros (P := Tryz.prog) w 23 3 ty 40 i0 _ .i64 .i64 Tryz.underlying23 Tryz.underlying3 qi qz0 n (by omega) (by rw [qz1]; decide) (by omega) (by rw [qz2]; omega))
    clear qi qz0 qz1 qz2
    have hlt : (0 : Int) < (n : Int) := by omega
    have hnn : ¬ ((n : Int) < 0) := by omega
    go_enter Tryz.func120, Tryz.ntmps120
    go_wp2_with (at_builtin; refine Lib.wpList_append_run _ rfl _ _ _ _ rfl _ _ rfl rfl _ _ (HR.out _) ?_)
    have B2 : Below w.heap.size w (w.drew.alloc (.cells (Builtin.zeroCells #[.string ⟨#[]⟩, .int .i64 0, .string ⟨#[]⟩] n ++ Builtin.zeroCells #[.string ⟨#[]⟩, .int .i64 0, .string ⟨#[]⟩] (grownCap w n 0 40 - n)) 40)) := (Below.refl w.heap.size w).drew.alloc (Nat.le_refl _) _
    have B2 := Lib.hid B2
    go_wp2
    go_ret
    exact ⟨_, _, rfl, HO.out, B2.out⟩
/-- Rows beside each other, to be joined. -/
def catNode (ps : List (Option Addr × List NodeD × Nat)) : List NodeD := ps.flatMap (·.2.1)
def PartsNode (w : World) (ob : Nat) (ps : List (Option Addr × List NodeD × Nat)) : Prop := ob < w.heap.size ∧ ∀ i (h : i < ps.length), w.cell? ⟨ob, i, none⟩ = some (.slice ps[i].1 ps[i].2.1.length ps[i].2.2) ∧ NodesAt w ps[i].1 ps[i].2.1
theorem partsNode_next {w w' : World} {ob : Nat} {ps : List (Option Addr × List NodeD × Nat)} (h : PartsNode w ob ps) (hb : Below w.heap.size w w') : PartsNode w' ob ps := ⟨Nat.lt_of_lt_of_le h.1 hb.size, fun i hi => ⟨by rw [hb.cell (p := ⟨ob, i, none⟩) h.1]; exact (h.2 i hi).1, nodesAt_next (h.2 i hi).2 hb⟩⟩
theorem catNode_take (ps : List (Option Addr × List NodeD × Nat)) {i : Nat} (h : i < ps.length) : catNode (ps.take (i + 1)) = catNode (ps.take i) ++ ps[i].2.1 := by
  unfold catNode; rw [List.take_succ_eq_append_getElem h, List.flatMap_append]; simp
theorem catNode_le (ps : List (Option Addr × List NodeD × Nat)) (i : Nat) : (catNode (ps.take i)).length ≤ (catNode ps).length := by
  have : catNode ps = catNode (ps.take i) ++ catNode (ps.drop i) := by unfold catNode; rw [← List.flatMap_append, List.take_append_drop]
  rw [this, List.length_append]; omega
set_option maxRecDepth 100000 in
set_option maxHeartbeats 4000000 in
theorem svCatNode_is (ps : List (Option Addr × List NodeD × Nat)) (ob c : Nat) (hl : (catNode ps).length ≤ 1000) (hp : ps.length ≤ 10) (w : World) (hx : PartsNode w ob ps) :
    Calls Tryz.prog 99 #[.slice (some ⟨ob, 0, none⟩) ps.length c] w fun e w' => ∃ ad cap, e = .returned (.slice ad (catNode ps).length cap) ∧ w'.ownsRow w.heap.size 40 3 (.slice ad (catNode ps).length cap) (catNode ps).length (cNodes (catNode ps)) ∧ Below w.heap.size w w' := by
  obtain ⟨i0, qi, qz0, qz1, qz2⟩ := info_parts' Tryz.info_node
  have Hi := Lib.hid qi
  have Hz0 := Lib.hid qz0
  have Hz1 := Lib.hid qz1
  have Hz2 := Lib.hid qz2
  have HX := Lib.hid hx
  clear qi qz0 qz1 qz2 hx
  go_enter Tryz.func99, Tryz.ntmps99
  go_wp2
  go_loopw [3, 11] (fun sv iv wr => ∃ i : Nat, iv = .int .i64 (i : Int) ∧ sv = .int .i64 ((catNode (ps.take i)).length : Int) ∧ i ≤ ps.length ∧ Below w.heap.size w wr) (fun _ iv _ => ps.length - (intOf iv).toNat)
  case atStart => exact ⟨0, rfl, by simp [catNode], Nat.zero_le _, Below.refl _ _⟩
  case round =>
    obtain ⟨i, rfl, rfl, hi, hbr⟩ := hrel
    by_cases h : (i : Int) < (ps.length : Int)
    case pos =>
      have hil : i < ps.length := by omega
      obtain ⟨k0, _⟩ := (partsNode_next HX.out hbr).2 i hil
      have hob := (partsNode_next HX.out hbr).1
      have hE := catNode_take ps hil
      have hE2 := catNode_le ps (i + 1)
      rw [hE, List.length_append] at hE2
      obtain ⟨⟨pa, pl, pc⟩, hpi⟩ : ∃ p, ps[i] = p := ⟨_, rfl⟩
      rw [hpi] at k0 hE hE2
      simp only at k0 hE hE2
      have HE : Hid ((catNode (ps.take (i + 1))).length = (catNode (ps.take i)).length + pl.length) := by show _ = _; rw [hE, List.length_append]
      obtain ⟨L, hL⟩ : ∃ L, (catNode (ps.take i)).length = L := ⟨_, rfl⟩
      rw [hL] at HE hE2 ⊢
      have hnn : ¬ ((L : Int) + (pl.length : Int) < 0) := by omega
      have HB := Lib.hid hbr
      clear hE hbr hpi hL
      go_wp2
      go_roundw
      case rel => exact ⟨i + 1, by simp, by rw [HE.out]; simp, by omega, HB.out⟩
      case measure => simp [intOf]; omega
    case neg =>
      obtain rfl : i = ps.length := by omega
      rw [List.take_length]
      have C1 := Lib.hid (svGrowNode_is (catNode ps).length hl wr)
      have HB := Lib.hid hbr
      clear hbr hi h
      go_wp2_with fail
      refine C1.out.mono ?_
      rintro e w1 ⟨pad, pcap, rfl, own0, b1⟩
      have B1 := Lib.hid (below_trans HB.out b1 HB.out.size)
      have O0 := Lib.hid (ownsRow_low own0 HB.out.size)
      clear own0 b1 C1
      go_wp2
      go_loopw [6, 27] (fun pv iv wr => ∃ i : Nat, iv = .int .i64 (i : Int) ∧ i ≤ ps.length ∧ wr.ownsRow w.heap.size 40 3 pv (catNode (ps.take i)).length (cNodes (catNode (ps.take i))) ∧ Below w.heap.size w wr) (fun _ iv _ => ps.length - (intOf iv).toNat)
      case atStart => exact ⟨0, rfl, Nat.zero_le _, by simpa [catNode, cNodes] using O0.out, B1.out⟩
      case round =>
        obtain ⟨i, rfl, hi, own, hbr⟩ := hrel
        obtain ⟨n0, hn0⟩ : ∃ n0, (catNode (ps.take i)).length = n0 := ⟨_, rfl⟩
        rw [hn0] at own
        obtain ⟨qad, qcap, rfl⟩ := ownRow_slice own
        by_cases h : (i : Int) < (ps.length : Int)
        case pos =>
          subst hn0
          have hil : i < ps.length := by omega
          obtain ⟨k0, ka⟩ := (partsNode_next HX.out hbr).2 i hil
          have hob := (partsNode_next HX.out hbr).1
          have hE := catNode_take ps hil
          have hE2 := catNode_le ps (i + 1)
          rw [hE, List.length_append] at hE2
          obtain ⟨⟨pa, pl, pc⟩, hpi⟩ : ∃ p, ps[i] = p := ⟨_, rfl⟩
          rw [hpi] at k0 hE hE2 ka
          simp only at k0 hE hE2 ka
          have HE := Lib.hid hE
          obtain ⟨L, hL⟩ : ∃ L, catNode (ps.take i) = L := ⟨_, rfl⟩
          rw [hL] at HE hE2 own ⊢
          have HB := Lib.hid hbr
          have OW := Lib.hid own
          have KA := Lib.hid ka
          clear hE hbr hpi hL own ka
          go_wp2_with (at_builtin; refine wpList_app rfl _ _ 23 rfl w.heap.size 40 i0 _ 3 40 Tryz.underlying23 Hi.out Hz0.out Hz1.out Hz2.out rfl (by decide) _ _ _ rfl OW.out _ _ _ (cNodes pl) rfl ?c1 ?c2 ?c3 ?c4 ?c5 ?c6 ?_)
          case c1 => rw [cNodes_length]
          case c2 => exact src_node KA.out
          case c3 => exact cNodes_ones pl
          case c4 => unfold maxLen; omega
          case c5 => omega
          case c6 => exact HB.out.size
          intro v' w1 own1 hg _
          have B2 := Lib.hid (HB.out.grown hg HB.out.size (fun k hk => (OW.out.lt k hk).1))
          rw [← cNodes_append, ← List.length_append] at own1
          obtain ⟨ad2, cap2, rfl⟩ := ownRow_slice own1
          have O1 := Lib.hid own1
          clear own1 hg
          go_wp2
          go_roundw
          case rel => exact ⟨i + 1, by simp, by omega, by rw [HE.out]; exact O1.out, B2.out⟩
          case measure => simp [intOf]; omega
        case neg =>
          obtain rfl : i = ps.length := by omega
          rw [List.take_length] at own hn0
          subst hn0
          have Q := Lib.hid (And.intro own hbr)
          clear own hbr hi h
          go_wp2
          go_ret
          exact ⟨qad, qcap, rfl, Q.out⟩

/-! ### Lease -/
set_option maxRecDepth 100000 in
theorem svGrowLease_is (n : Nat) (hn : n ≤ 1000) (w : World) : Calls Tryz.prog 134 #[.slice none 0 0, .int .i64 (n : Int)] w fun e w' => ∃ ad cap, e = .returned (.slice ad 0 cap) ∧ w'.ownsRow w.heap.size 42 3 (.slice ad 0 cap) 0 [] ∧ Below w.heap.size w w' := by
  obtain ⟨i0, qi, qz0, qz1, qz2⟩ := info_parts' Tryz.info_lease
  by_cases h0 : n = 0
  · subst h0
    clear qi qz0 qz1 qz2
    go_enter Tryz.func134, Tryz.ntmps134
    go_wp2
    go_ret
    exact ⟨none, 0, rfl, World.ownsRow_nil _ _ _ _, Below.refl _ _⟩
  · have HO := Lib.hid (own_room (e := 42) (sz := 3) (n := n) w #[.string ⟨#[]⟩, .string ⟨#[]⟩, .int .i64 0] rfl hn)
    have HR := Lib.hid (fun ty => Lib.run_append_nil_zeros (P := Tryz.prog) w 24 3 ty 42 i0 _ .i64 .i64 Tryz.underlying24 Tryz.underlying3 qi qz0 n (by omega) (by rw [qz1]; decide) (by omega) (by rw [qz2]; omega))
    clear qi qz0 qz1 qz2
    have hlt : (0 : Int) < (n : Int) := by omega
    have hnn : ¬ ((n : Int) < 0) := by omega
    go_enter Tryz.func134, Tryz.ntmps134
    go_wp2_with (at_builtin; refine Lib.wpList_append_run _ rfl _ _ _ _ rfl _ _ rfl rfl _ _ (HR.out _) ?_)
    have B2 : Below w.heap.size w (w.drew.alloc (.cells (Builtin.zeroCells #[.string ⟨#[]⟩, .string ⟨#[]⟩, .int .i64 0] n ++ Builtin.zeroCells #[.string ⟨#[]⟩, .string ⟨#[]⟩, .int .i64 0] (grownCap w n 0 42 - n)) 42)) := (Below.refl w.heap.size w).drew.alloc (Nat.le_refl _) _
    have B2 := Lib.hid B2
    go_wp2
    go_ret
    exact ⟨_, _, rfl, HO.out, B2.out⟩
/-- Rows beside each other, to be joined. -/
def catLease (ps : List (Option Addr × List LeaseD × Nat)) : List LeaseD := ps.flatMap (·.2.1)
def PartsLease (w : World) (ob : Nat) (ps : List (Option Addr × List LeaseD × Nat)) : Prop := ob < w.heap.size ∧ ∀ i (h : i < ps.length), w.cell? ⟨ob, i, none⟩ = some (.slice ps[i].1 ps[i].2.1.length ps[i].2.2) ∧ LeasesAt w ps[i].1 ps[i].2.1
theorem partsLease_next {w w' : World} {ob : Nat} {ps : List (Option Addr × List LeaseD × Nat)} (h : PartsLease w ob ps) (hb : Below w.heap.size w w') : PartsLease w' ob ps := ⟨Nat.lt_of_lt_of_le h.1 hb.size, fun i hi => ⟨by rw [hb.cell (p := ⟨ob, i, none⟩) h.1]; exact (h.2 i hi).1, leasesAt_next (h.2 i hi).2 hb⟩⟩
theorem catLease_take (ps : List (Option Addr × List LeaseD × Nat)) {i : Nat} (h : i < ps.length) : catLease (ps.take (i + 1)) = catLease (ps.take i) ++ ps[i].2.1 := by
  unfold catLease; rw [List.take_succ_eq_append_getElem h, List.flatMap_append]; simp
theorem catLease_le (ps : List (Option Addr × List LeaseD × Nat)) (i : Nat) : (catLease (ps.take i)).length ≤ (catLease ps).length := by
  have : catLease ps = catLease (ps.take i) ++ catLease (ps.drop i) := by unfold catLease; rw [← List.flatMap_append, List.take_append_drop]
  rw [this, List.length_append]; omega
set_option maxRecDepth 100000 in
set_option maxHeartbeats 4000000 in
theorem svCatLease_is (ps : List (Option Addr × List LeaseD × Nat)) (ob c : Nat) (hl : (catLease ps).length ≤ 1000) (hp : ps.length ≤ 10) (w : World) (hx : PartsLease w ob ps) :
    Calls Tryz.prog 125 #[.slice (some ⟨ob, 0, none⟩) ps.length c] w fun e w' => ∃ ad cap, e = .returned (.slice ad (catLease ps).length cap) ∧ w'.ownsRow w.heap.size 42 3 (.slice ad (catLease ps).length cap) (catLease ps).length (cLeases (catLease ps)) ∧ Below w.heap.size w w' := by
  obtain ⟨i0, qi, qz0, qz1, qz2⟩ := info_parts' Tryz.info_lease
  have Hi := Lib.hid qi
  have Hz0 := Lib.hid qz0
  have Hz1 := Lib.hid qz1
  have Hz2 := Lib.hid qz2
  have HX := Lib.hid hx
  clear qi qz0 qz1 qz2 hx
  go_enter Tryz.func125, Tryz.ntmps125
  go_wp2
  go_loopw [3, 11] (fun sv iv wr => ∃ i : Nat, iv = .int .i64 (i : Int) ∧ sv = .int .i64 ((catLease (ps.take i)).length : Int) ∧ i ≤ ps.length ∧ Below w.heap.size w wr) (fun _ iv _ => ps.length - (intOf iv).toNat)
  case atStart => exact ⟨0, rfl, by simp [catLease], Nat.zero_le _, Below.refl _ _⟩
  case round =>
    obtain ⟨i, rfl, rfl, hi, hbr⟩ := hrel
    by_cases h : (i : Int) < (ps.length : Int)
    case pos =>
      have hil : i < ps.length := by omega
      obtain ⟨k0, _⟩ := (partsLease_next HX.out hbr).2 i hil
      have hob := (partsLease_next HX.out hbr).1
      have hE := catLease_take ps hil
      have hE2 := catLease_le ps (i + 1)
      rw [hE, List.length_append] at hE2
      obtain ⟨⟨pa, pl, pc⟩, hpi⟩ : ∃ p, ps[i] = p := ⟨_, rfl⟩
      rw [hpi] at k0 hE hE2
      simp only at k0 hE hE2
      have HE : Hid ((catLease (ps.take (i + 1))).length = (catLease (ps.take i)).length + pl.length) := by show _ = _; rw [hE, List.length_append]
      obtain ⟨L, hL⟩ : ∃ L, (catLease (ps.take i)).length = L := ⟨_, rfl⟩
      rw [hL] at HE hE2 ⊢
      have hnn : ¬ ((L : Int) + (pl.length : Int) < 0) := by omega
      have HB := Lib.hid hbr
      clear hE hbr hpi hL
      go_wp2
      go_roundw
      case rel => exact ⟨i + 1, by simp, by rw [HE.out]; simp, by omega, HB.out⟩
      case measure => simp [intOf]; omega
    case neg =>
      obtain rfl : i = ps.length := by omega
      rw [List.take_length]
      have C1 := Lib.hid (svGrowLease_is (catLease ps).length hl wr)
      have HB := Lib.hid hbr
      clear hbr hi h
      go_wp2_with fail
      refine C1.out.mono ?_
      rintro e w1 ⟨pad, pcap, rfl, own0, b1⟩
      have B1 := Lib.hid (below_trans HB.out b1 HB.out.size)
      have O0 := Lib.hid (ownsRow_low own0 HB.out.size)
      clear own0 b1 C1
      go_wp2
      go_loopw [6, 27] (fun pv iv wr => ∃ i : Nat, iv = .int .i64 (i : Int) ∧ i ≤ ps.length ∧ wr.ownsRow w.heap.size 42 3 pv (catLease (ps.take i)).length (cLeases (catLease (ps.take i))) ∧ Below w.heap.size w wr) (fun _ iv _ => ps.length - (intOf iv).toNat)
      case atStart => exact ⟨0, rfl, Nat.zero_le _, by simpa [catLease, cLeases] using O0.out, B1.out⟩
      case round =>
        obtain ⟨i, rfl, hi, own, hbr⟩ := hrel
        obtain ⟨n0, hn0⟩ : ∃ n0, (catLease (ps.take i)).length = n0 := ⟨_, rfl⟩
        rw [hn0] at own
        obtain ⟨qad, qcap, rfl⟩ := ownRow_slice own
        by_cases h : (i : Int) < (ps.length : Int)
        case pos =>
          subst hn0
          have hil : i < ps.length := by omega
          obtain ⟨k0, ka⟩ := (partsLease_next HX.out hbr).2 i hil
          have hob := (partsLease_next HX.out hbr).1
          have hE := catLease_take ps hil
          have hE2 := catLease_le ps (i + 1)
          rw [hE, List.length_append] at hE2
          obtain ⟨⟨pa, pl, pc⟩, hpi⟩ : ∃ p, ps[i] = p := ⟨_, rfl⟩
          rw [hpi] at k0 hE hE2 ka
          simp only at k0 hE hE2 ka
          have HE := Lib.hid hE
          obtain ⟨L, hL⟩ : ∃ L, catLease (ps.take i) = L := ⟨_, rfl⟩
          rw [hL] at HE hE2 own ⊢
          have HB := Lib.hid hbr
          have OW := Lib.hid own
          have KA := Lib.hid ka
          clear hE hbr hpi hL own ka
          go_wp2_with (at_builtin; refine wpList_app rfl _ _ 24 rfl w.heap.size 42 i0 _ 3 40 Tryz.underlying24 Hi.out Hz0.out Hz1.out Hz2.out rfl (by decide) _ _ _ rfl OW.out _ _ _ (cLeases pl) rfl ?c1 ?c2 ?c3 ?c4 ?c5 ?c6 ?_)
          case c1 => rw [cLeases_length]
          case c2 => exact src_lease KA.out
          case c3 => exact cLeases_ones pl
          case c4 => unfold maxLen; omega
          case c5 => omega
          case c6 => exact HB.out.size
          intro v' w1 own1 hg _
          have B2 := Lib.hid (HB.out.grown hg HB.out.size (fun k hk => (OW.out.lt k hk).1))
          rw [← cLeases_append, ← List.length_append] at own1
          obtain ⟨ad2, cap2, rfl⟩ := ownRow_slice own1
          have O1 := Lib.hid own1
          clear own1 hg
          go_wp2
          go_roundw
          case rel => exact ⟨i + 1, by simp, by omega, by rw [HE.out]; exact O1.out, B2.out⟩
          case measure => simp [intOf]; omega
        case neg =>
          obtain rfl : i = ps.length := by omega
          rw [List.take_length] at own hn0
          subst hn0
          have Q := Lib.hid (And.intro own hbr)
          clear own hbr hi h
          go_wp2
          go_ret
          exact ⟨qad, qcap, rfl, Q.out⟩
end Go.Proofs.YtiekgafopalfmaaGreatDoor

/- slices.Clone, slices.IndexFunc and slices.DeleteFunc on leases, at any predicate. -/
namespace Go.Proofs.YtiekgafopalfmaaGreatDoor
open Go.RowKit Go.Lib

/-- How far DeleteFunc has come: i rows kept of j, the row being d. -/
def KInv {α : Type} (p : α → Bool) (xs : List α) (i j : Nat) (d : List α) : Prop := d.length = xs.length ∧ i < j ∧ j ≤ xs.length ∧ d.take i = (xs.take j).filter (fun x => !p x) ∧ d.drop j = xs.drop j
section
variable {α : Type} {p : α → Bool} {xs d : List α}
theorem kinv_start {k : Nat} (hk : k < xs.length) (h1 : p xs[k] = true) (h2 : ∀ t (ht : t < xs.length), t < k → p xs[t] = false) : KInv p xs k (k + 1) xs := by
  refine ⟨rfl, by omega, by omega, ?_, rfl⟩
  rw [List.take_succ_eq_append_getElem hk, List.filter_append]
  have h3 : (xs.take k).filter (fun x => !p x) = xs.take k := by
    rw [List.filter_eq_self]
    intro z hz
    obtain ⟨t, ht, rfl⟩ := List.mem_take_iff_getElem.1 hz
    rw [h2 t (by omega) (by omega)]; rfl
  rw [h3]; simp [h1]
theorem kinv_at {i j : Nat} (h : KInv p xs i j d) (hj : j < xs.length) : ∃ hd : j < d.length, d[j] = xs[j] := by
  have hd : j < d.length := by rw [h.1]; exact hj
  refine ⟨hd, ?_⟩
  have e := h.2.2.2.2
  rw [List.drop_eq_getElem_cons hd, List.drop_eq_getElem_cons hj] at e
  exact (List.cons.inj e).1
theorem kinv_skip {i j : Nat} (h : KInv p xs i j d) (hj : j < xs.length) (hp : p xs[j] = true) : KInv p xs i (j + 1) d := by
  obtain ⟨h1, h2, h3, h4, h5⟩ := h
  refine ⟨h1, by omega, by omega, ?_, ?_⟩
  · rw [h4, List.take_succ_eq_append_getElem hj, List.filter_append]; simp [hp]
  · have e := congrArg (List.drop 1) h5
    rwa [List.drop_drop, List.drop_drop] at e
theorem kinv_keep {i j : Nat} (h : KInv p xs i j d) (hj : j < xs.length) (hp : p xs[j] = false) : KInv p xs (i + 1) (j + 1) (d.set i xs[j]) := by
  obtain ⟨h1, h2, h3, h4, h5⟩ := h
  have hi : i < d.length := by omega
  refine ⟨by rw [List.length_set]; exact h1, by omega, by omega, ?_, ?_⟩
  · rw [List.take_succ_eq_append_getElem hj, List.filter_append, ← h4, List.take_succ_eq_append_getElem (by rw [List.length_set]; exact hi), List.getElem_set_self, List.take_set_of_le (Nat.le_refl i)]
    simp [hp]
  · rw [List.drop_set_of_lt (by omega)]
    have e := congrArg (List.drop 1) h5
    rwa [List.drop_drop, List.drop_drop] at e
theorem kinv_end {i : Nat} (h : KInv p xs i xs.length d) : d.take i = xs.filter (fun x => !p x) ∧ i = (xs.filter (fun x => !p x)).length ∧ i ≤ d.length := by
  obtain ⟨h1, h2, h3, h4, h5⟩ := h
  rw [List.take_length] at h4
  refine ⟨h4, ?_, by omega⟩
  rw [← h4, List.length_take]; omega
theorem filter_all (h : ∀ z ∈ xs, p z = false) : xs.filter (fun x => !p x) = xs := by
  rw [List.filter_eq_self]
  intro z hz
  rw [h z hz]; rfl
end
/-- A row of leases in a block of its own. -/
def LRow (g cap : Nat) (d : List LeaseD) (w : World) : Prop := ∃ (cur : Array Value) (rest : List Value), ObjAt g cur 42 w ∧ cur.toList = cLeases d ++ rest ∧ d.length ≤ cap ∧ cap ≤ maxLen ∧ cur.size = cap * 3
theorem lrow_of {w : World} {B n : Nat} {ad : Option Addr} {cap : Nat} {xs : List LeaseD} (h : w.ownsRow B 42 3 (.slice ad n cap) n (cLeases xs)) (hn : n = xs.length) : (ad = none ∧ cap = 0 ∧ xs = []) ∨ ∃ g, ad = some ⟨g, 0, none⟩ ∧ B ≤ g ∧ LRow g cap xs w := by
  rcases h.2 with ⟨h0, h1⟩ | ⟨g, c, cur, hv, hB, hg, hc, hm, hs, ht⟩
  · simp only [Value.slice.injEq] at h0
    refine .inl ⟨h0.1, h0.2.2, ?_⟩
    rw [hn] at h1
    exact List.length_eq_zero_iff.1 h1
  · simp only [Value.slice.injEq] at hv
    obtain ⟨rfl, _, rfl⟩ := hv
    refine .inr ⟨g, rfl, hB, cur, cur.toList.drop (n * 3), hg, ?_, by omega, hm, hs⟩
    rw [← ht, List.take_append_drop]
theorem lrow_own {w : World} {B g cap i : Nat} {d : List LeaseD} (h : LRow g cap d w) (hB : B ≤ g) (hi : i ≤ d.length) : w.ownsRow B 42 3 (.slice (some ⟨g, 0, none⟩) i cap) i (cLeases (d.take i)) := by
  obtain ⟨cur, rest, ho, ht, hl, hm, hs⟩ := h
  refine ⟨by rw [cLeases_length, List.length_take, Nat.min_eq_left hi], .inr ⟨g, cap, cur, rfl, hB, ho, by omega, hm, hs, ?_⟩⟩
  have e : cLeases d = cLeases (d.take i) ++ cLeases (d.drop i) := by rw [← cLeases_append, List.take_append_drop]
  rw [ht, e, List.append_assoc, List.take_left' (by rw [cLeases_length, List.length_take, Nat.min_eq_left hi])]
theorem lrow_cells {w : World} {g cap i : Nat} {d : List LeaseD} (h : LRow g cap d w) (hi : i < d.length) : w.cell? ⟨g, i * 3, none⟩ = some (.string d[i].job) ∧ w.cell? ⟨g, i * 3 + 1, none⟩ = some (.string d[i].node) ∧ w.cell? ⟨g, i * 3 + 2, none⟩ = some (.int .i64 d[i].til) := by
  have hx := ownLeases (lrow_own (B := 0) h (Nat.zero_le _) (Nat.le_refl d.length)) (by rw [List.take_length])
  rw [List.take_length] at hx
  obtain ⟨a, ha, _, h0, h1, h2⟩ := hx i hi
  simp only [Option.some.injEq] at ha
  subst ha
  rw [addr_add] at h0 h1 h2
  exact ⟨h0, h1, h2⟩
theorem lrow_free {w : World} {g cap : Nat} {d : List LeaseD} (h : LRow g cap d w) (j : Nat) : w.frozen? ⟨g, j, none⟩ = false := by
  obtain ⟨cur, rest, ho, _⟩ := h
  exact objAt_free ho j
theorem lrow_lt {w : World} {g cap : Nat} {d : List LeaseD} (h : LRow g cap d w) : g < w.heap.size := by
  obtain ⟨cur, rest, ho, _⟩ := h
  exact objAt_lt ho
theorem lrow_next {w w' : World} {g cap : Nat} {d : List LeaseD} (h : LRow g cap d w) (hb : Below w.heap.size w w') : LRow g cap d w' := by
  obtain ⟨cur, rest, ho, r⟩ := h
  exact ⟨cur, rest, objAt_next ho hb, r⟩
theorem cLeases_set : ∀ (d : List LeaseD) (rest : List Value) (i : Nat) (x : LeaseD), i < d.length → (((cLeases d ++ rest).set (i * 3) (.string x.job)).set (i * 3 + 1) (.string x.node)).set (i * 3 + 2) (.int .i64 x.til) = cLeases (d.set i x) ++ rest
  | [], _, _, _, h => by simp at h
  | y :: d, rest, 0, x, _ => by simp [cLeases, cLease]
  | y :: d, rest, i + 1, x, h => by
    have ih := cLeases_set d rest i x (by simpa using h)
    have e : ∀ z : List LeaseD, ∀ y : LeaseD, cLeases (y :: z) = Value.string y.job :: Value.string y.node :: Value.int .i64 y.til :: cLeases z := fun z y => by simp [cLeases, cLease]
    rw [List.set_cons_succ, e, e, show (i + 1) * 3 = i * 3 + 1 + 1 + 1 by omega, show i * 3 + 1 + 1 + 1 + 1 = (i * 3 + 1) + 1 + 1 + 1 by omega, show i * 3 + 1 + 1 + 1 + 2 = (i * 3 + 2) + 1 + 1 + 1 by omega]
    simp only [List.cons_append, List.set_cons_succ]
    rw [ih]
theorem lrow_set {w : World} {g cap i : Nat} {d : List LeaseD} (h : LRow g cap d w) (hi : i < d.length) (x : LeaseD) : LRow g cap (d.set i x) (((w.setCell ⟨g, i * 3, none⟩ (.string x.job)).setCell ⟨g, i * 3 + 1, none⟩ (.string x.node)).setCell ⟨g, i * 3 + 2, none⟩ (.int .i64 x.til)) := by
  obtain ⟨cur, rest, ho, ht, hl, hm, hs⟩ := h
  refine ⟨_, rest, objAt_set (objAt_set (objAt_set ho _ _) _ _) _ _, ?_, by rw [List.length_set]; exact hl, hm, by simp [hs]⟩
  rw [Array.toList_setIfInBounds, Array.toList_setIfInBounds, Array.toList_setIfInBounds, ht, cLeases_set d rest i x hi]
theorem setCells_obj {g : Nat} {t : TypeId} : ∀ (us : List Value) {w : World} {cur : Array Value} (off : Nat), ObjAt g cur t w → ∃ cur', ObjAt g cur' t (w.setCells g off us) ∧ cur'.size = cur.size ∧ cur'.toList.take off = cur.toList.take off
  | [], w, cur, off, h => ⟨cur, h, rfl, rfl⟩
  | u :: us, w, cur, off, h => by
    obtain ⟨cur', h1, h2, h3⟩ := setCells_obj us (off + 1) (objAt_set h off u)
    refine ⟨cur', h1, by rw [h2]; simp, ?_⟩
    have e := congrArg (List.take off) h3
    rw [List.take_take, List.take_take, Nat.min_eq_left (Nat.le_succ off), Array.toList_setIfInBounds] at e
    rw [e, List.take_set_of_le (Nat.le_refl off)]
theorem setCells_gN (g : Nat) : ∀ (us : List Value) (w : World) (off : Nat), w.grownBy (w.setCells g off us) (some g)
  | [], w, _ => gN_refl g w
  | u :: us, w, off => by
    have h1 := gN_set (gN_refl g w) off u
    have h2 := setCells_gN g us (w.setCell ⟨g, off, none⟩ u) (off + 1)
    exact ⟨h2.os.trans h1.os, h2.tape.trans h1.tape, h2.output.trans h1.output, Nat.le_trans h1.size h2.size, fun k hk hn => (h2.block k (Nat.lt_of_lt_of_le hk h1.size) hn).trans (h1.block k hk hn)⟩
theorem lrow_clear {w : World} {g cap i : Nat} {d : List LeaseD} (h : LRow g cap d w) (hi : i ≤ d.length) (us : List Value) : LRow g cap (d.take i) (w.setCells g (i * 3) us) := by
  obtain ⟨cur, rest, ho, ht, hl, hm, hs⟩ := h
  obtain ⟨cur', h1, h2, h3⟩ := setCells_obj us (i * 3) ho
  refine ⟨cur', cur'.toList.drop (i * 3), h1, ?_, by rw [List.length_take]; omega, hm, by rw [h2]; exact hs⟩
  have e : cLeases d = cLeases (d.take i) ++ cLeases (d.drop i) := by rw [← cLeases_append, List.take_append_drop]
  have e2 : cur.toList.take (i * 3) = cLeases (d.take i) := by rw [ht, e, List.append_assoc, List.take_left' (by rw [cLeases_length, List.length_take, Nat.min_eq_left hi])]
  rw [← e2, ← h3, List.take_append_drop]
/-- 'clear(s)' at elements of several cells. -/
theorem run_clear_k {P : Program} (w : World) (t e ty : TypeId) (z : Value) (ht : P.underlying t = some (.slice e)) (hv : ∀ w, (zeroValue e).run P w = .ok z w) (b o n c : Nat) (hn : 0 < n) (us : List Value) (hus : (Builtin.zeroCells z.cells n).toList = us) (h1 : ∀ v ∈ us, v.oneCell' = true)
    (hc : ∀ j, j < us.length → (w.cell? ⟨b, o + j, none⟩).isSome = true) (hf : ∀ j, j < us.length → w.frozen? ⟨b, o + j, none⟩ = false) :
    (Builtin.clear_ #[t] ty #[.slice (some ⟨b, o, none⟩) n c]).run P w = .ok (.tuple #[]) (w.setCells b o us) := by
  have hst := run_storeCells_cells (P := P) b o us 0 w (by simpa using hc) (by simpa using hf) h1
  simp only [Nat.add_zero] at hst
  obtain ⟨m, rfl⟩ : ∃ m, n = m + 1 := ⟨n - 1, by omega⟩
  simp [Builtin.clear_, run_underlying ht, hv, hus, hst]
theorem lrow_some {w : World} {g cap : Nat} {d : List LeaseD} (h : LRow g cap d w) {j : Nat} (hj : j < cap * 3) : (w.cell? ⟨g, j, none⟩).isSome = true := by
  obtain ⟨cur, rest, ho, ht, hl, hm, hs⟩ := h
  rw [objAt_cell ho j (Array.getElem?_eq_getElem (by rw [hs]; exact hj))]; rfl
theorem zeros_len (n : Nat) : (Builtin.zeroCells (Value.agg #[.string ⟨#[]⟩, .string ⟨#[]⟩, .int .i64 0]).cells n).toList.length = n * 3 := by rw [Array.length_toList, size_zeroCells]; rfl
theorem zeros_one (n : Nat) : ∀ v ∈ (Builtin.zeroCells (Value.agg #[.string ⟨#[]⟩, .string ⟨#[]⟩, .int .i64 0]).cells n).toList, v.oneCell' = true := by
  intro v hv
  simp only [Builtin.zeroCells, Value.cells] at hv
  simp at hv
  obtain ⟨i, _, rfl⟩ := hv
  have : i % 3 = 0 ∨ i % 3 = 1 ∨ i % 3 = 2 := by omega
  rcases this with h | h | h <;> simp [h] <;> rfl
section
variable (fn : Nat) (lb : Array Value) (eg : ∀ args w, (callFunc fn args).run Tryz.prog w = .ok (.enter fn args) w) (p : LeaseD → Bool) (T : World → Prop) (N : Nat) (hTn : ∀ w w', T w → Below w.heap.size w w' → T w') (hTs : ∀ w b j u, N ≤ b → T w → T (w.setCell ⟨b, j, none⟩ u))
  (HP : ∀ (x : LeaseD) (w : World), T w → Calls Tryz.prog fn (#[.agg #[.string x.job, .string x.node, .int .i64 x.til]] ++ lb) w fun e w' => e = .returned (.bool (p x)) ∧ Below w.heap.size w w')
include eg hTn HP
set_option maxRecDepth 100000 in
set_option maxHeartbeats 4000000 in
theorem svIndex_is (xs : List LeaseD) (ad : Option Addr) (cap : Nat) (hl : xs.length ≤ 1000) (w : World) (hT : T w) (hx : LeasesAt w ad xs) :
    Calls Tryz.prog 133 #[.slice ad xs.length cap, .func (.func fn) #[] lb] w fun e w' => ∃ r : Int, e = .returned (.int .i64 r) ∧ ((r = -1 ∧ ∀ z ∈ xs, p z = false) ∨ ∃ k : Nat, ∃ hk : k < xs.length, r = (k : Int) ∧ p xs[k] = true ∧ ∀ t (ht : t < xs.length), t < k → p xs[t] = false) ∧ Below w.heap.size w w' := by
  have HX := Lib.hid hx
  have HT := Lib.hid hT
  have HTn := Lib.hid hTn
  have HPP := Lib.hid HP
  clear hx hT hTn HP
  go_enter Tryz.func133, Tryz.ntmps133
  go_wp2
  go_loopw [8] (fun iv wr => ∃ i : Nat, iv = .int .i64 (i : Int) ∧ i ≤ xs.length ∧ Hid (∀ t (ht : t < xs.length), t < i → p xs[t] = false) ∧ Hid (T wr) ∧ Below w.heap.size w wr) (fun iv _ => xs.length - (intOf iv).toNat)
  case atStart => exact ⟨0, rfl, Nat.zero_le _, fun t _ h => absurd h (Nat.not_lt_zero _), HT, Below.refl _ _⟩
  case round =>
    obtain ⟨i, rfl, hi, HI, HTr, hbr⟩ := hrel
    by_cases h : (i : Int) < (xs.length : Int)
    case pos =>
      have hil : i < xs.length := by omega
      obtain ⟨a, rfl, hal, k0, k1, k2⟩ := leasesAt_next HX.out hbr i hil
      obtain ⟨x, hxi⟩ : ∃ x, xs[i] = x := ⟨_, rfl⟩
      rw [hxi] at k0 k1 k2
      have HXI := Lib.hid hxi
      have C1 := HPP.out x wr HTr.out
      obtain ⟨c, hc⟩ : ∃ c, p x = c := ⟨_, rfl⟩
      rw [hc] at C1
      have C1 := Lib.hid C1
      have HC : Hid (p xs[i] = c) := by show _ = _; rw [hxi, hc]
      have HB := Lib.hid hbr
      clear hxi hc hbr
      go_wp2_with fail
      refine C1.out.mono ?_
      rintro e w2 ⟨rfl, b2⟩
      have B2 := Lib.hid (below_trans HB.out b2 HB.out.size)
      have T2 := Lib.hid (HTn.out _ _ HTr.out b2)
      clear b2 C1 k0 k1 k2 hal
      cases c with
      | true =>
        go_wp2
        go_ret
        exact ⟨(i : Int), rfl, .inr ⟨i, hil, rfl, HC.out, HI.out⟩, B2.out⟩
      | false =>
        go_wp2
        go_roundw
        case rel =>
          refine ⟨i + 1, by simp, by omega, fun t ht h2 => ?_, T2, B2.out⟩
          by_cases e : t = i
          · subst e; exact HC.out
          · exact HI.out t ht (by omega)
        case measure => simp [intOf]; omega
    case neg =>
      obtain rfl : i = xs.length := by omega
      have Q := Lib.hid hbr
      clear hbr h hi
      go_wp2
      go_ret
      refine ⟨-1, rfl, .inl ⟨rfl, fun z hz => ?_⟩, Q.out⟩
      obtain ⟨t, ht, rfl⟩ := List.getElem_of_mem hz
      exact HI.out t ht ht
include hTs
set_option maxRecDepth 100000 in
set_option maxHeartbeats 4000000 in
theorem svDelete_is (xs : List LeaseD) (ad : Option Addr) (cap : Nat) (hl : xs.length ≤ 1000) (w : World) (hT : T w) (hN : N ≤ w.heap.size) (hx : w.ownsRow N 42 3 (.slice ad xs.length cap) xs.length (cLeases xs)) :
    Calls Tryz.prog 121 #[.slice ad xs.length cap, .func (.func fn) #[] lb] w fun e w' => ∃ ad' cap', e = .returned (.slice ad' (xs.filter fun x => !p x).length cap') ∧ w'.ownsRow N 42 3 (.slice ad' (xs.filter fun x => !p x).length cap') (xs.filter fun x => !p x).length (cLeases (xs.filter fun x => !p x)) ∧ Below N w w' := by
  have C0 := Lib.hid (svIndex_is fn lb eg p T hTn HP xs ad cap hl w hT (ownLeases hx rfl))
  have HX := Lib.hid hx
  have HT := Lib.hid hT
  have HTn := Lib.hid hTn
  have HTs := Lib.hid hTs
  have HPP := Lib.hid HP
  clear hx hT hTn hTs HP
  go_enter Tryz.func121, Tryz.ntmps121
  go_wp2_with fail
  refine C0.out.mono ?_
  rintro e w1 ⟨r, rfl, hr, b1⟩
  have T1 := Lib.hid (HTn.out _ _ HT.out b1)
  have O1 := Lib.hid (own_next HX.out b1)
  have B1 := Lib.hid (b1.mono hN)
  clear b1 C0
  rcases hr with ⟨rfl, hall⟩ | ⟨k, hk, rfl, hpk, hbf⟩
  · have HE := Lib.hid (filter_all hall)
    clear hall
    go_wp2
    go_ret
    exact ⟨ad, cap, by rw [HE.out]; rfl, by rw [HE.out]; exact O1.out, B1.out⟩
  · have KI := kinv_start hk hpk hbf
    rcases lrow_of O1.out rfl with ⟨_, _, e0⟩ | ⟨g, rfl, hg, hL⟩
    · rw [e0] at hk; simp at hk
    have HK := Lib.hid KI
    have HL := Lib.hid hL
    have hk1 : ((k : Int) == -1) = false := beq_eq_false_iff_ne.2 (by omega)
    clear hpk hbf KI hL
    go_wp2
    go_loopw [5, 6, 7] (fun iv jv _ wr => ∃ (i j : Nat) (d : List LeaseD), iv = .int .i64 (i : Int) ∧ jv = .int .i64 (j : Int) ∧ i < j ∧ j ≤ xs.length ∧ Hid (KInv p xs i j d) ∧ Hid (T wr) ∧ LRow g cap d wr ∧ Below N w wr) (fun _ jv _ _ => xs.length - (intOf jv).toNat)
    case atStart => exact ⟨k, k + 1, xs, rfl, by simp, by omega, by omega, HK, T1, HL.out, B1.out⟩
    case round =>
      obtain ⟨i, j, d, rfl, rfl, hij, hj, HKI, HTr, hL, hbr⟩ := hrel
      have hd := HKI.out.1
      by_cases h : (j : Int) < (xs.length : Int)
      case pos =>
        have hil : j < xs.length := by omega
        obtain ⟨hjd, hje⟩ := kinv_at HKI.out hil
        obtain ⟨k0, k1, k2⟩ := lrow_cells hL hjd
        rw [hje] at k0 k1 k2
        obtain ⟨x, hxi⟩ : ∃ x, xs[j] = x := ⟨_, rfl⟩
        rw [hxi] at k0 k1 k2
        have HXI := Lib.hid hxi
        obtain ⟨V, hV⟩ : ∃ V, wr.alloc (.cells #[.string x.job, .string x.node, .int .i64 x.til] 42) = V := ⟨_, rfl⟩
        have bA := below_one wr (.cells #[.string x.job, .string x.node, .int .i64 x.til] 42)
        have oX := objAt_new wr #[.string x.job, .string x.node, .int .i64 x.til] 42
        obtain ⟨LX, hLX⟩ : ∃ L, wr.heap.size = L := ⟨_, rfl⟩
        rw [hV] at bA oX
        rw [hLX] at oX
        have e0 := objAt_cell oX 0 rfl
        have e1 := objAt_cell oX 1 rfl
        have e2 := objAt_cell oX 2 rfl
        have el := objAt_lt oX
        have hgl := lrow_lt hL
        have hg2 : g < LX := by omega
        have TV := HTn.out _ _ HTr.out bA
        have C1 := HPP.out x V TV
        have hNw : N ≤ wr.heap.size := Nat.le_trans hN hbr.size
        have PV := Lib.hid (And.intro (lrow_next hL bA) (And.intro (below_trans hbr bA hNw) (And.intro TV oX)))
        clear oX bA hxi TV hL hbr
        cases hc : p x with
        | true =>
          rw [hc] at C1
          have C1 := Lib.hid C1
          have HK2 := Lib.hid (kinv_skip HKI.out hil (by rw [HXI.out]; exact hc))
          clear hc
          go_wp2_with fail
          refine C1.out.mono ?_
          rintro e w2 ⟨rfl, b2⟩
          obtain ⟨hLV, BV, TV, oX⟩ := PV.out
          have Q := Lib.hid (And.intro (lrow_next hLV b2) (And.intro (below_trans BV b2 (Nat.le_trans hNw (by omega))) (HTn.out _ _ TV b2)))
          clear hLV BV TV oX b2 C1 e0 e1 e2 k0 k1 k2 PV
          go_wp2
          go_roundw
          case rel =>
            obtain ⟨q1, q2, q3⟩ := Q.out
            exact ⟨i, j + 1, d, rfl, by simp, by omega, by omega, HK2, q3, q1, q2⟩
          case measure => simp [intOf]; omega
        | false =>
          rw [hc] at C1
          have C1 := Lib.hid C1
          have HK2 := Lib.hid (kinv_keep HKI.out hil (by rw [HXI.out]; exact hc))
          rw [HXI.out] at HK2
          clear hc
          go_wp2_with fail
          refine C1.out.mono ?_
          rintro e w2 ⟨rfl, b2⟩
          obtain ⟨hLV, BV, TV, oX⟩ := PV.out
          have hL2 := lrow_next hLV b2
          have oX2 := objAt_next oX b2
          have hid : i < d.length := by omega
          obtain ⟨r0, r1, r2⟩ := lrow_cells hL2 hid
          have f0 := lrow_free hL2 (i * 3)
          have f1 := lrow_free hL2 (i * 3 + 1)
          have f2 := lrow_free hL2 (i * 3 + 2)
          have hL3 := lrow_set hL2 hid x
          have B2 := below_trans BV b2 (Nat.le_trans hNw (by omega))
          have B3 := ((B2.setCell (p := ⟨g, i * 3, none⟩) hg (.string x.job)).setCell (p := ⟨g, i * 3 + 1, none⟩) hg (.string x.node)).setCell (p := ⟨g, i * 3 + 2, none⟩) hg (.int .i64 x.til)
          have T3 := HTs.out _ g (i * 3 + 2) (.int .i64 x.til) hg (HTs.out _ g (i * 3 + 1) (.string x.node) hg (HTs.out _ g (i * 3) (.string x.job) hg (HTn.out _ _ TV b2)))
          have Q := Lib.hid (And.intro hL3 (And.intro B3 T3))
          have e0 := objAt_cell oX2 0 rfl
          have e1 := objAt_cell oX2 1 rfl
          have e2 := objAt_cell oX2 2 rfl
          have hil2 : i < xs.length := by omega
          have hg3 := lrow_lt hL2
          have el2 := objAt_lt oX2
          clear hLV BV TV oX b2 C1 k0 k1 k2 PV hL2 oX2 hL3 B2 B3 T3
          go_wp2
          go_roundw
          case rel =>
            obtain ⟨q1, q2, q3⟩ := Q.out
            exact ⟨i + 1, j + 1, d.set i x, by simp, by simp, by omega, by omega, HK2, q3, q1, q2⟩
          case measure => simp [intOf]; omega
      case neg =>
        obtain rfl : j = xs.length := by omega
        obtain ⟨E1, E2, E3⟩ := kinv_end HKI.out
        have hcapd := (show d.length ≤ cap by obtain ⟨_, _, _, _, h, _⟩ := hL; exact h)
        have hcl : ∀ ty, (Builtin.clear_ #[24] ty #[.slice (some ⟨g, i * 3, none⟩) (xs.length - i) (cap - i)]).run Tryz.prog wr = .ok (.tuple #[]) (wr.setCells g (i * 3) (Builtin.zeroCells (Value.agg #[.string ⟨#[]⟩, .string ⟨#[]⟩, .int .i64 0]).cells (xs.length - i)).toList) := fun ty =>
          run_clear_k wr 24 42 ty (.agg #[.string ⟨#[]⟩, .string ⟨#[]⟩, .int .i64 0]) Tryz.underlying24 Tryz.zeroValue42 g (i * 3) _ _ (by omega) _ rfl (zeros_one _) (fun t ht => lrow_some hL (by rw [zeros_len] at ht; omega)) (fun t _ => lrow_free hL _)
        have hL2 := lrow_clear hL (i := i) (by omega) (Builtin.zeroCells (Value.agg #[.string ⟨#[]⟩, .string ⟨#[]⟩, .int .i64 0]).cells (xs.length - i)).toList
        obtain ⟨us, hus⟩ : ∃ us, (Builtin.zeroCells (Value.agg #[.string ⟨#[]⟩, .string ⟨#[]⟩, .int .i64 0]).cells (xs.length - i)).toList = us := ⟨_, rfl⟩
        rw [hus] at hcl hL2
        have own := lrow_own (B := N) hL2 hg (Nat.le_refl _)
        rw [List.take_length, E1, ← E2] at own
        have BF := gN_below hbr (Nat.le_trans hN hbr.size) hg (setCells_gN g us wr (i * 3))
        have Q := Lib.hid (And.intro own BF)
        have HE2 := Lib.hid E2
        have hgl := lrow_lt hL
        have hz : ¬ ((xs.length : Int) - (i : Int) < 0) := by omega
        clear hL hL2 hbr own BF E1 E2 hus
        go_wp2
        go_ret
        exact ⟨some ⟨g, 0, none⟩, cap, by rw [← HE2.out]; rfl, by rw [← HE2.out]; exact Q.out.1, Q.out.2⟩
end
theorem below_trans' {B : Nat} {w0 w1 w2 : World} (h : Below B w0 w1) (k : Below B w1 w2) : Below B w0 w2 := h.trans k
theorem own_empty (w : World) (e sz : Nat) : (w.alloc (.cells #[] e)).ownsRow w.heap.size e sz (.slice (some ⟨w.heap.size, 0, none⟩) 0 0) 0 [] := ⟨by simp, .inr ⟨w.heap.size, 0, #[], rfl, Nat.le_refl _, heap_alloc_new w _, Nat.le_refl _, Nat.zero_le _, by simp, by simp⟩⟩
set_option maxRecDepth 100000 in
theorem svClone_is (xs : List LeaseD) (ad : Option Addr) (cap : Nat) (hl : xs.length ≤ 1000) (w : World) (hx : w.ownsRow 0 42 3 (.slice ad xs.length cap) xs.length (cLeases xs)) :
    Calls Tryz.prog 122 #[.slice ad xs.length cap] w fun e w' => ∃ ad' cap', e = .returned (.slice ad' xs.length cap') ∧ w'.ownsRow w.heap.size 42 3 (.slice ad' xs.length cap') xs.length (cLeases xs) ∧ Below w.heap.size w w' := by
  rcases lrow_of hx rfl with ⟨rfl, rfl, rfl⟩ | ⟨g, rfl, _, hL⟩
  · have hq : ∀ w : World, (binOp BinOp.eql 24 (.slice none 0 0) (.slice none 0 0)).run Tryz.prog w = .ok (.bool true) w := fun w => Lib.run_eql_slice_nil w _ _ none 0 0 0 0 Tryz.underlying24
    clear hx
    go_enter Tryz.func122, Tryz.ntmps122
    go_wp2
    go_ret
    exact ⟨none, 0, rfl, World.ownsRow_nil _ _ _ _, Below.refl _ _⟩
  · obtain ⟨i0, qi, qz0, qz1, qz2⟩ := info_parts' Tryz.info_lease
    have Hi := Lib.hid qi
    have Hz0 := Lib.hid qz0
    have Hz1 := Lib.hid qz1
    have Hz2 := Lib.hid qz2
    have bA := below_one w (.cells #[] 42)
    have HX := Lib.hid (leasesAt_next (ownLeases hx rfl) bA)
    have HB := Lib.hid bA
    have HO := Lib.hid (own_empty w 42 3)
    have hq : ∀ w : World, (binOp BinOp.eql 24 (.slice (some ⟨g, 0, none⟩) xs.length cap) (.slice none 0 0)).run Tryz.prog w = .ok (.bool false) w := fun w => Lib.run_eql_slice_nil w _ _ (some ⟨g, 0, none⟩) _ _ 0 0 Tryz.underlying24
    clear qi qz0 qz1 qz2 hx hL bA
    go_enter Tryz.func122, Tryz.ntmps122
    go_wp2_with (at_builtin; refine wpList_app rfl _ _ 24 rfl w.heap.size 42 i0 _ 3 40 Tryz.underlying24 Hi.out Hz0.out Hz1.out Hz2.out rfl (by decide) _ _ _ rfl HO.out _ _ _ (cLeases xs) rfl ?c1 ?c2 ?c3 ?c4 ?c5 ?c6 ?_)
    case c1 => rw [cLeases_length]
    case c2 => exact src_lease HX.out
    case c3 => exact cLeases_ones xs
    case c4 => unfold maxLen; omega
    case c5 => omega
    case c6 => exact HB.out.size
    intro v' w1 own1 hg _
    have B2 := Lib.hid (HB.out.grown hg HB.out.size (fun k hk => (HO.out.lt k hk).1))
    have own2 : w1.ownsRow w.heap.size 42 3 v' xs.length (cLeases xs) := by simpa using own1
    obtain ⟨ad2, cap2, rfl⟩ := ownRow_slice own2
    have O2 := Lib.hid own2
    clear own1 own2 hg
    go_wp2
    go_ret
    exact ⟨ad2, cap2, rfl, O2.out, B2.out⟩
section
variable (fn : Nat) (lb : Array Value) (eg : ∀ args w, (callFunc fn args).run Tryz.prog w = .ok (.enter fn args) w) (p : LeaseD → Bool) (T : World → Prop) (hTn : ∀ w w', T w → Below w.heap.size w w' → T w')
  (HP : ∀ (x : LeaseD) (w : World), T w → Calls Tryz.prog fn (#[.agg #[.string x.job, .string x.node, .int .i64 x.til]] ++ lb) w fun e w' => e = .returned (.bool (p x)) ∧ Below w.heap.size w w')
include eg hTn HP
set_option maxRecDepth 100000 in
set_option maxHeartbeats 2000000 in
theorem svEnd_is (v : SvD) (aj an al : Option Addr) (cj cn cl : Nat) (c : Nat) (hl : v.s.leases.length ≤ 100) (w : World) (hT : T w) (hTs : ∀ V b j u, w.heap.size ≤ b → T V → T (V.setCell ⟨b, j, none⟩ u)) (ho : ObjAt c (svC v aj an al cj cn cl) 96 w) (hx : OwnS 0 aj an al cj cn cl v.s w) :
    Calls Tryz.prog 100 #[.pointer (some ⟨c, 0, none⟩), .func (.func fn) #[] lb] w fun e w' => e = .returned (.tuple #[]) ∧ TxAt c ⟨⟨v.s.rev, v.s.jobs, v.s.nodes, v.s.leases.filter fun x => !p x⟩, v.now⟩ w' ∧ w.grownBy w' (some c) := by
  unfold svC at ho
  have k3 := objAt_cell ho 3 rfl
  have hcl := objAt_lt ho
  have C1 := Lib.hid (svClone_is v.s.leases al cl (by omega) w hx.2.2)
  have HX := Lib.hid hx
  have HO := Lib.hid ho
  have HT := Lib.hid hT
  have HTn := Lib.hid hTn
  have HTs := Lib.hid hTs
  have HPP := Lib.hid HP
  clear hx ho hT hTn hTs HP
  go_enter Tryz.func100, Tryz.ntmps100
  go_wp2_with fail
  refine C1.out.mono ?_
  rintro e w1 ⟨ad1, cap1, rfl, own1, b1⟩
  have C2 := Lib.hid (svDelete_is fn lb eg p T w.heap.size HTn.out HTs.out HPP.out v.s.leases ad1 cap1 (by omega) w1 (HTn.out _ _ HT.out b1) b1.size own1)
  have B1 := Lib.hid b1
  clear b1 own1 C1 k3
  go_wp2_with fail
  refine C2.out.mono ?_
  rintro e w2 ⟨ad2, cap2, rfl, own2, b2⟩
  have B2 := below_trans' B1.out b2
  have o2 := objAt_next HO.out B2
  have x2 := ownS_next HX.out B2
  have hcl2 := objAt_lt o2
  have e3 := objAt_cell o2 3 rfl
  have g3 := objAt_free o2 3
  have HF : Hid (ObjAt c (svC ⟨⟨v.s.rev, v.s.jobs, v.s.nodes, v.s.leases.filter fun x => !p x⟩, v.now⟩ aj an ad2 cj cn cap2) 96 (w2.setCell ⟨c, 3, none⟩ (.slice ad2 (v.s.leases.filter fun x => !p x).length cap2))) := objAt_set o2 3 _
  have HR : Hid (OwnS 0 aj an ad2 cj cn cap2 ⟨v.s.rev, v.s.jobs, v.s.nodes, v.s.leases.filter fun x => !p x⟩ (w2.setCell ⟨c, 3, none⟩ (.slice ad2 (v.s.leases.filter fun x => !p x).length cap2))) := ⟨own_box x2.1 o2 rowT_tx.1 3 _, own_box x2.2.1 o2 rowT_tx.2.1 3 _, own_box (own_is own2) o2 rowT_tx.2.2 3 _⟩
  have HG : Hid (w.grownBy (w2.setCell ⟨c, 3, none⟩ (.slice ad2 (v.s.leases.filter fun x => !p x).length cap2)) (some c)) := gN_set (gN_of_below B2) 3 _
  clear o2 x2 own2 b2 B2 C2
  go_wp2
  first | go_end0 | refine bodyPost_ret (results_none rfl _ _ _) rfl ?_
  exact ⟨rfl, ⟨aj, an, ad2, cj, cn, cap2, HF.out, HR.out⟩, HG.out⟩
end
end Go.Proofs.YtiekgafopalfmaaGreatDoor

/- insert: a row put in its place. -/
namespace Go.Proofs.YtiekgafopalfmaaGreatDoor
open Go.RowKit Go.Lib

section
variable {α : Type} {key : α → ByteArray} {l : List α} {k : ByteArray} {p : Nat}
theorem putL_front : ∀ (p q : List α) (x : α), (∀ z ∈ p, lt (key z) (key x)) → putL key x (p ++ q) = p ++ putL key x q
  | [], _, _, _ => rfl
  | y :: p, q, x, h => by
    have ih := putL_front p q x (fun z hz => h z (List.mem_cons_of_mem _ hz))
    show putL key x (y :: (p ++ q)) = y :: (p ++ putL key x q)
    rw [← ih]
    conv => lhs; unfold putL
    rw [if_pos (h y List.mem_cons_self)]
theorem pos_has (ha : Asc key l) (h : PosP key l k p) (hz : ∃ z ∈ l, key z = k) : ∃ hp : p < l.length, key l[p] = k := by
  obtain ⟨z, hz, e⟩ := hz
  obtain ⟨t, ht, rfl⟩ := List.getElem_of_mem hz
  have h1 : p ≤ t := by
    by_cases h1 : t < p
    · exact absurd e (lt_ne (h.2.1 t ht h1))
    · omega
  by_cases h2 : p = t
  · subst h2; exact ⟨ht, e⟩
  · have h3 := List.pairwise_iff_getElem.1 ha p t (by omega) ht (by omega)
    rw [e] at h3
    exact absurd h3 (h.2.2 p (by omega) (Nat.le_refl _))
theorem pos_ahead (h : PosP key l k p) : ∀ z ∈ l.take p, lt (key z) k := by
  intro z hz
  obtain ⟨t, ht, rfl⟩ := List.mem_take_iff_getElem.1 hz
  exact h.2.1 t (by omega) (by omega)
theorem put_pos_old {x : α} (ha : Asc key l) (h : PosP key l (key x) p) (hz : ∃ z ∈ l, key z = key x) : putL key x l = l.take p ++ [x] ++ l.drop (p + 1) := by
  obtain ⟨hp, e⟩ := pos_has ha h hz
  conv => lhs; rw [← List.take_append_drop p l]
  rw [putL_front _ _ _ (pos_ahead h), List.drop_eq_getElem_cons hp]
  unfold putL
  rw [if_neg (h.2.2 p hp (Nat.le_refl _)), if_pos e]
  simp
theorem put_pos_new {x : α} (h : PosP key l (key x) p) (hz : ∀ z ∈ l, key z ≠ key x) : putL key x l = l.take p ++ [x] ++ l.drop p := by
  conv => lhs; rw [← List.take_append_drop p l]
  rw [putL_front _ _ _ (pos_ahead h)]
  by_cases hp : p < l.length
  · rw [List.drop_eq_getElem_cons hp]
    unfold putL
    rw [if_neg (h.2.2 p hp (Nat.le_refl _)), if_neg (hz _ (List.getElem_mem hp))]
    simp
  · rw [List.drop_eq_nil_of_le (by omega)]
    simp [putL]
theorem but_pos (q : α → Bool) (hq : ∀ z, q z = true ↔ key z = k) (ha : Asc key l) (h : PosP key l k p) (hz : ∃ z ∈ l, key z = k) : l.take p ++ l.drop (p + 1) = l.filter fun z => !q z := by
  obtain ⟨hp, e⟩ := pos_has ha h hz
  conv => rhs; rw [← List.take_append_drop p l]
  rw [List.filter_append, List.drop_eq_getElem_cons hp, List.filter_cons]
  have h1 : (l.take p).filter (fun z => !q z) = l.take p := by
    rw [List.filter_eq_self]
    intro z hz
    have := lt_ne (pos_ahead h z hz)
    have : q z = false := by
      cases hqz : q z with
      | false => rfl
      | true => exact absurd ((hq z).1 hqz) this
    rw [this]; rfl
  have h2 : (l.drop (p + 1)).filter (fun z => !q z) = l.drop (p + 1) := by
    rw [List.filter_eq_self]
    intro z hz
    have hn := asc_ne ha p hp z (List.mem_append_right _ hz)
    rw [e] at hn
    have : q z = false := by
      cases hqz : q z with
      | false => rfl
      | true => exact absurd ((hq z).1 hqz) hn
    rw [this]; rfl
  have h3 : q l[p] = true := (hq _).2 e
  rw [h1, h2, h3]
  simp
end
theorem own_caps {w : World} {B e sz n cap : Nat} {ad : Option Addr} {xs : List Value} (h : w.ownsRow B e sz (.slice ad n cap) n xs) : n ≤ cap := by
  rcases h.2 with ⟨h0, h1⟩ | ⟨g, c, cur, hv, _, _, hc, _⟩
  · omega
  · simp only [Value.slice.injEq] at hv
    omega
theorem put_len2 {α : Type} (key : α → ByteArray) (x : α) : ∀ l : List α, (putL key x l).length ≤ l.length + 1
  | [] => by simp [putL]
  | y :: l => by
    have := put_len2 key x l
    unfold putL
    split
    · simp only [List.length_cons]; omega
    · split <;> simp


/-! ### Job -/
theorem oneJobAt {L : Nat} {x : JobD} {w : World} (o : ObjAt L #[.string x.name, .int .i64 x.prio, .int .i64 x.need, .int .i64 x.tries, .string x.tag] 38 w) : JobsAt w (some ⟨L, 0, none⟩) [x] := by
  intro i hi
  obtain rfl : i = 0 := by simpa using hi
  refine ⟨⟨L, 0, none⟩, rfl, objAt_lt o, ?_, ?_, ?_, ?_, ?_⟩
  · simpa [Addr.add] using objAt_cell o 0 rfl
  · simpa [Addr.add] using objAt_cell o 1 rfl
  · simpa [Addr.add] using objAt_cell o 2 rfl
  · simpa [Addr.add] using objAt_cell o 3 rfl
  · simpa [Addr.add] using objAt_cell o 4 rfl
theorem tailJobAt {w : World} {ad : Option Addr} {xs : List JobD} {cap k : Nat} (h : JobsAt w ad xs) (hc : xs.length ≤ cap) : JobsAt w (if cap = k then ad else Option.map (fun a => a.add (k * 5)) ad) (xs.drop k) := by
  split
  · rw [List.drop_eq_nil_of_le (by omega)]; intro i hi; simp at hi
  · cases ad with
    | none => intro i hi; obtain ⟨a, ha, _⟩ := h 0 (by simp at hi; omega); cases ha
    | some a => exact jobsAt_drop h k
theorem parts3Job (w : World) (x : JobD) (ad : Option Addr) (xs : List JobD) (cap p k : Nat) (h : JobsAt w ad xs) (hc : xs.length ≤ cap) (hp : p ≤ xs.length) : PartsJob (((w.alloc (.cells #[.string x.name, .int .i64 x.prio, .int .i64 x.need, .int .i64 x.tries, .string x.tag] 38)).alloc (.cells #[.slice ad p cap, .slice (some ⟨w.heap.size, 0, none⟩) 1 1, .slice (if cap = k then ad else Option.map (fun a => a.add (k * 5)) ad) (xs.length - k) (cap - k)] 22)).drew) (w.heap.size + 1) [(ad, xs.take p, cap), (some ⟨w.heap.size, 0, none⟩, [x], 1), (if cap = k then ad else Option.map (fun a => a.add (k * 5)) ad, xs.drop k, cap - k)] := by
  have o1 := objAt_new w #[.string x.name, .int .i64 x.prio, .int .i64 x.need, .int .i64 x.tries, .string x.tag] 38
  have b1 := below_one w (.cells #[.string x.name, .int .i64 x.prio, .int .i64 x.need, .int .i64 x.tries, .string x.tag] 38)
  obtain ⟨W1, h1⟩ : ∃ W, w.alloc (.cells #[.string x.name, .int .i64 x.prio, .int .i64 x.need, .int .i64 x.tries, .string x.tag] 38) = W := ⟨_, rfl⟩
  rw [h1] at o1 b1 ⊢
  have s1 : W1.heap.size = w.heap.size + 1 := by rw [← h1, World.size_alloc]
  obtain ⟨q, hq⟩ : ∃ q, (if cap = k then ad else Option.map (fun a => a.add (k * 5)) ad) = q := ⟨_, rfl⟩
  have ht := tailJobAt (k := k) h hc
  rw [hq] at ht ⊢
  have o2 := objAt_new W1 #[.slice ad p cap, .slice (some ⟨w.heap.size, 0, none⟩) 1 1, .slice q (xs.length - k) (cap - k)] 22
  rw [s1] at o2
  have b2 := below_one W1 (.cells #[.slice ad p cap, .slice (some ⟨w.heap.size, 0, none⟩) 1 1, .slice q (xs.length - k) (cap - k)] 22)
  have bb := below_trans b1 b2 b1.size
  obtain ⟨W2, h2⟩ : ∃ W, W1.alloc (.cells #[.slice ad p cap, .slice (some ⟨w.heap.size, 0, none⟩) 1 1, .slice q (xs.length - k) (cap - k)] 22) = W := ⟨_, rfl⟩
  rw [h2] at o2 b2 bb ⊢
  have z : ∀ i, W2.drew.cell? ⟨w.heap.size + 1, i, none⟩ = W2.cell? ⟨w.heap.size + 1, i, none⟩ := fun i => rfl
  refine ⟨objAt_lt (objAt_drew o2), fun i hi => ?_⟩
  have hi : i < 3 := hi
  obtain rfl | rfl | rfl : i = 0 ∨ i = 1 ∨ i = 2 := by omega
  · refine ⟨?_, jobsAt_next (jobsAt_take h p) bb.drew⟩
    show W2.drew.cell? _ = some (.slice ad (xs.take p).length cap)
    rw [z, List.length_take, Nat.min_eq_left hp]; exact objAt_cell o2 0 rfl
  · exact ⟨objAt_cell (objAt_drew o2) 1 rfl, oneJobAt (objAt_drew (objAt_next o1 b2))⟩
  · refine ⟨?_, jobsAt_next ht bb.drew⟩
    show W2.drew.cell? _ = some (.slice q (xs.drop k).length (cap - k))
    rw [z, List.length_drop]; exact objAt_cell o2 2 rfl
theorem svCat3Job_is {a1 a2 a3 : Option Addr} {l1 l2 l3 out : List JobD} {c1 c2 c3 ob c : Nat} {w : World} (he : l1 ++ l2 ++ l3 = out) (hl : out.length ≤ 1000) (hx : PartsJob w ob [(a1, l1, c1), (a2, l2, c2), (a3, l3, c3)]) :
    Calls Tryz.prog 97 #[.slice (some ⟨ob, 0, none⟩) 3 c] w fun e w' => ∃ ad cap, e = .returned (.slice ad out.length cap) ∧ w'.ownsRow w.heap.size 38 5 (.slice ad out.length cap) out.length (cJobs out) ∧ Below w.heap.size w w' := by
  have e : catJob [(a1, l1, c1), (a2, l2, c2), (a3, l3, c3)] = out := by rw [← he]; simp [catJob]
  have h := svCatJob_is [(a1, l1, c1), (a2, l2, c2), (a3, l3, c3)] ob c (by rw [e]; exact hl) (by simp) w hx
  rw [e] at h
  exact h
theorem svCat2Job_is {a1 a2 : Option Addr} {l1 l2 out : List JobD} {c1 c2 ob c : Nat} {w : World} (he : l1 ++ l2 = out) (hl : out.length ≤ 1000) (hx : PartsJob w ob [(a1, l1, c1), (a2, l2, c2)]) :
    Calls Tryz.prog 97 #[.slice (some ⟨ob, 0, none⟩) 2 c] w fun e w' => ∃ ad cap, e = .returned (.slice ad out.length cap) ∧ w'.ownsRow w.heap.size 38 5 (.slice ad out.length cap) out.length (cJobs out) ∧ Below w.heap.size w w' := by
  have e : catJob [(a1, l1, c1), (a2, l2, c2)] = out := by rw [← he]; simp [catJob]
  have h := svCatJob_is [(a1, l1, c1), (a2, l2, c2)] ob c (by rw [e]; exact hl) (by simp) w hx
  rw [e] at h
  exact h
set_option maxRecDepth 100000 in
set_option maxHeartbeats 4000000 in
theorem svInsJob_old (xs : List JobD) (ha : Asc (·.name) xs) (x : JobD) (ad : Option Addr) (cap : Nat) (hl : xs.length ≤ 100) (hcap : xs.length ≤ cap) (hh : hasJob xs x.name = true) (w : World) (hx : JobsAt w ad xs) :
    Calls Tryz.prog 82 #[.slice ad xs.length cap, .agg #[.string x.name, .int .i64 x.prio, .int .i64 x.need, .int .i64 x.tries, .string x.tag], .func (.func 34) #[] #[]] w fun e w' => ∃ ad' cap', e = .returned (.slice ad' (putL (·.name) x xs).length cap') ∧ w'.ownsRow w.heap.size 38 5 (.slice ad' (putL (·.name) x xs).length cap') (putL (·.name) x xs).length (cJobs (putL (·.name) x xs)) ∧ Below w.heap.size w w' := by
  obtain ⟨W, hW⟩ : ∃ W, w.alloc (.cells #[.string x.name, .int .i64 x.prio, .int .i64 x.need, .int .i64 x.tries, .string x.tag] 38) = W := ⟨_, rfl⟩
  have bA := below_one w (.cells #[.string x.name, .int .i64 x.prio, .int .i64 x.need, .int .i64 x.tries, .string x.tag] 38)
  have oX := objAt_new w #[.string x.name, .int .i64 x.prio, .int .i64 x.need, .int .i64 x.tries, .string x.tag] 38
  rw [hW] at bA oX
  have x0 := objAt_cell oX 0 rfl
  have x1 := objAt_cell oX 1 rfl
  have x2 := objAt_cell oX 2 rfl
  have x3 := objAt_cell oX 3 rfl
  have x4 := objAt_cell oX 4 rfl
  have OX := Lib.hid oX
  have BA := Lib.hid bA
  have HX := Lib.hid hx
  have HA := Lib.hid ha
  have HH := Lib.hid hh
  clear oX bA hx ha
  go_enter Tryz.func82, Tryz.ntmps82
  go_wp2_with fail
  refine (jobKey_eq x _).mono ?_
  rintro e w2 ⟨rfl, rfl⟩
  have b2 := below_one W (.cells #[.string x.name, .int .i64 x.prio, .int .i64 x.need, .int .i64 x.tries, .string x.tag] 38)
  have B2 := below_trans BA.out b2 BA.out.size
  have C1 := svFindJob_is xs HA.out x.name ad cap hl _ (jobsAt_next HX.out B2)
  rw [hh] at C1
  have C1 := Lib.hid C1
  have O2 := Lib.hid (objAt_next OX.out b2)
  have BB2 := Lib.hid B2
  clear b2 B2 hh
  go_wp2_with fail
  refine C1.out.mono ?_
  rintro e w3 ⟨p, rfl, hp, b3⟩
  have o3 := objAt_next O2.out b3
  have B3 := Lib.hid (below_trans BB2.out b3 BB2.out.size)
  have y0 := objAt_cell o3 0 rfl
  have y1 := objAt_cell o3 1 rfl
  have y2 := objAt_cell o3 2 rfl
  have y3 := objAt_cell o3 3 rfl
  have y4 := objAt_cell o3 4 rfl
  have hpl := hp.1
  have hpc : p ≤ cap := Nat.le_trans hpl hcap
  have HP := Lib.hid hp
  obtain ⟨hpp, hpe⟩ := pos_has HA.out hp ((hasJob_iff xs x.name).1 HH.out)
  have HE := Lib.hid (put_pos_old HA.out hp ((hasJob_iff xs x.name).1 HH.out))
  have hp1 : (0 : Int) ≤ (p : Int) + 1 ∧ (p : Int) + 1 ≤ (xs.length : Int) := ⟨by omega, by omega⟩
  obtain ⟨hp1, hp2⟩ := hp1
  clear hpe
  have hol := objAt_lt o3
  obtain ⟨out, hout⟩ : ∃ out, xs.take p ++ [x] ++ xs.drop (p + 1) = out := ⟨_, rfl⟩
  rw [hout] at HE
  have hlo : out.length ≤ 1000 := by have := put_len2 (·.name) x xs; rw [HE.out] at this; omega
  have C2 := Lib.hid (svCat3Job_is (c := 3) hout hlo (parts3Job w3 x ad xs cap p (p + 1) (jobsAt_next HX.out B3.out) hcap hpl))
  have BB : Hid (Below w.heap.size w (((w3.alloc (.cells #[.string x.name, .int .i64 x.prio, .int .i64 x.need, .int .i64 x.tries, .string x.tag] 38)).alloc (.cells #[.slice ad p cap, .slice (some ⟨w3.heap.size, 0, none⟩) 1 1, .slice (if cap = p + 1 then ad else Option.map (fun a => a.add ((p + 1) * 5)) ad) (xs.length - (p + 1)) (cap - (p + 1))] 22)).drew)) := ((B3.out.alloc B3.out.size _).alloc (by have s3 := B3.out.size; rw [World.size_alloc]; omega) _).drew
  clear hout o3 b3 hp C1 x0 x1 x2 x3 x4 HX HA HH O2 BB2 HP hlo
  go_wp2_with fail
  go_region_law (first | (go_simp; go_at_call 97; (with_reducible refine C2.out.mono ?_); rintro e v ⟨rad, rcap, rfl, rown, rb⟩))
  all_goals
    have RO := Lib.hid (ownsRow_low rown BB.out.size)
    have RB := Lib.hid (below_trans BB.out rb BB.out.size)
    clear rown rb BB C2 B3
    generalize (if cap = p + 1 then ad else Option.map (fun x => x.add ((p + 1) * 5)) ad) = qq
    go_wp2
    go_ret
    exact ⟨rad, rcap, by rw [HE.out]; rfl, by rw [HE.out]; exact RO.out, RB.out⟩
set_option maxRecDepth 100000 in
set_option maxHeartbeats 4000000 in
theorem svInsJob_new (xs : List JobD) (ha : Asc (·.name) xs) (x : JobD) (ad : Option Addr) (cap : Nat) (hl : xs.length ≤ 100) (hcap : xs.length ≤ cap) (hh : hasJob xs x.name = false) (w : World) (hx : JobsAt w ad xs) :
    Calls Tryz.prog 82 #[.slice ad xs.length cap, .agg #[.string x.name, .int .i64 x.prio, .int .i64 x.need, .int .i64 x.tries, .string x.tag], .func (.func 34) #[] #[]] w fun e w' => ∃ ad' cap', e = .returned (.slice ad' (putL (·.name) x xs).length cap') ∧ w'.ownsRow w.heap.size 38 5 (.slice ad' (putL (·.name) x xs).length cap') (putL (·.name) x xs).length (cJobs (putL (·.name) x xs)) ∧ Below w.heap.size w w' := by
  obtain ⟨W, hW⟩ : ∃ W, w.alloc (.cells #[.string x.name, .int .i64 x.prio, .int .i64 x.need, .int .i64 x.tries, .string x.tag] 38) = W := ⟨_, rfl⟩
  have bA := below_one w (.cells #[.string x.name, .int .i64 x.prio, .int .i64 x.need, .int .i64 x.tries, .string x.tag] 38)
  have oX := objAt_new w #[.string x.name, .int .i64 x.prio, .int .i64 x.need, .int .i64 x.tries, .string x.tag] 38
  rw [hW] at bA oX
  have x0 := objAt_cell oX 0 rfl
  have x1 := objAt_cell oX 1 rfl
  have x2 := objAt_cell oX 2 rfl
  have x3 := objAt_cell oX 3 rfl
  have x4 := objAt_cell oX 4 rfl
  have OX := Lib.hid oX
  have BA := Lib.hid bA
  have HX := Lib.hid hx
  have HA := Lib.hid ha
  have HH := Lib.hid hh
  clear oX bA hx ha
  go_enter Tryz.func82, Tryz.ntmps82
  go_wp2_with fail
  refine (jobKey_eq x _).mono ?_
  rintro e w2 ⟨rfl, rfl⟩
  have b2 := below_one W (.cells #[.string x.name, .int .i64 x.prio, .int .i64 x.need, .int .i64 x.tries, .string x.tag] 38)
  have B2 := below_trans BA.out b2 BA.out.size
  have C1 := svFindJob_is xs HA.out x.name ad cap hl _ (jobsAt_next HX.out B2)
  rw [hh] at C1
  have C1 := Lib.hid C1
  have O2 := Lib.hid (objAt_next OX.out b2)
  have BB2 := Lib.hid B2
  clear b2 B2 hh
  go_wp2_with fail
  refine C1.out.mono ?_
  rintro e w3 ⟨p, rfl, hp, b3⟩
  have o3 := objAt_next O2.out b3
  have B3 := Lib.hid (below_trans BB2.out b3 BB2.out.size)
  have y0 := objAt_cell o3 0 rfl
  have y1 := objAt_cell o3 1 rfl
  have y2 := objAt_cell o3 2 rfl
  have y3 := objAt_cell o3 3 rfl
  have y4 := objAt_cell o3 4 rfl
  have hpl := hp.1
  have hpc : p ≤ cap := Nat.le_trans hpl hcap
  have HP := Lib.hid hp
  have HE := Lib.hid (put_pos_new hp (fun z hz e => by have := (hasJob_iff xs x.name).2 ⟨z, hz, e⟩; rw [HH.out] at this; cases this))
  have hol := objAt_lt o3
  obtain ⟨out, hout⟩ : ∃ out, xs.take p ++ [x] ++ xs.drop (p) = out := ⟨_, rfl⟩
  rw [hout] at HE
  have hlo : out.length ≤ 1000 := by have := put_len2 (·.name) x xs; rw [HE.out] at this; omega
  have C2 := Lib.hid (svCat3Job_is (c := 3) hout hlo (parts3Job w3 x ad xs cap p (p) (jobsAt_next HX.out B3.out) hcap hpl))
  have BB : Hid (Below w.heap.size w (((w3.alloc (.cells #[.string x.name, .int .i64 x.prio, .int .i64 x.need, .int .i64 x.tries, .string x.tag] 38)).alloc (.cells #[.slice ad p cap, .slice (some ⟨w3.heap.size, 0, none⟩) 1 1, .slice (if cap = p then ad else Option.map (fun a => a.add ((p) * 5)) ad) (xs.length - (p)) (cap - (p))] 22)).drew)) := ((B3.out.alloc B3.out.size _).alloc (by have s3 := B3.out.size; rw [World.size_alloc]; omega) _).drew
  clear hout o3 b3 hp C1 x0 x1 x2 x3 x4 HX HA HH O2 BB2 HP hlo
  go_wp2_with fail
  go_region_law (first | (go_simp; go_at_call 97; (with_reducible refine C2.out.mono ?_); rintro e v ⟨rad, rcap, rfl, rown, rb⟩))
  all_goals
    have RO := Lib.hid (ownsRow_low rown BB.out.size)
    have RB := Lib.hid (below_trans BB.out rb BB.out.size)
    clear rown rb BB C2 B3
    generalize (if cap = p then ad else Option.map (fun x => x.add ((p) * 5)) ad) = qq
    go_wp2
    go_ret
    exact ⟨rad, rcap, by rw [HE.out]; rfl, by rw [HE.out]; exact RO.out, RB.out⟩

/-! ### Node -/
theorem oneNodeAt {L : Nat} {x : NodeD} {w : World} (o : ObjAt L #[.string x.name, .int .i64 x.room, .string x.zone] 40 w) : NodesAt w (some ⟨L, 0, none⟩) [x] := by
  intro i hi
  obtain rfl : i = 0 := by simpa using hi
  refine ⟨⟨L, 0, none⟩, rfl, objAt_lt o, ?_, ?_, ?_⟩
  · simpa [Addr.add] using objAt_cell o 0 rfl
  · simpa [Addr.add] using objAt_cell o 1 rfl
  · simpa [Addr.add] using objAt_cell o 2 rfl
theorem tailNodeAt {w : World} {ad : Option Addr} {xs : List NodeD} {cap k : Nat} (h : NodesAt w ad xs) (hc : xs.length ≤ cap) : NodesAt w (if cap = k then ad else Option.map (fun a => a.add (k * 3)) ad) (xs.drop k) := by
  split
  · rw [List.drop_eq_nil_of_le (by omega)]; intro i hi; simp at hi
  · cases ad with
    | none => intro i hi; obtain ⟨a, ha, _⟩ := h 0 (by simp at hi; omega); cases ha
    | some a => exact nodesAt_drop h k
theorem parts3Node (w : World) (x : NodeD) (ad : Option Addr) (xs : List NodeD) (cap p k : Nat) (h : NodesAt w ad xs) (hc : xs.length ≤ cap) (hp : p ≤ xs.length) : PartsNode (((w.alloc (.cells #[.string x.name, .int .i64 x.room, .string x.zone] 40)).alloc (.cells #[.slice ad p cap, .slice (some ⟨w.heap.size, 0, none⟩) 1 1, .slice (if cap = k then ad else Option.map (fun a => a.add (k * 3)) ad) (xs.length - k) (cap - k)] 23)).drew) (w.heap.size + 1) [(ad, xs.take p, cap), (some ⟨w.heap.size, 0, none⟩, [x], 1), (if cap = k then ad else Option.map (fun a => a.add (k * 3)) ad, xs.drop k, cap - k)] := by
  have o1 := objAt_new w #[.string x.name, .int .i64 x.room, .string x.zone] 40
  have b1 := below_one w (.cells #[.string x.name, .int .i64 x.room, .string x.zone] 40)
  obtain ⟨W1, h1⟩ : ∃ W, w.alloc (.cells #[.string x.name, .int .i64 x.room, .string x.zone] 40) = W := ⟨_, rfl⟩
  rw [h1] at o1 b1 ⊢
  have s1 : W1.heap.size = w.heap.size + 1 := by rw [← h1, World.size_alloc]
  obtain ⟨q, hq⟩ : ∃ q, (if cap = k then ad else Option.map (fun a => a.add (k * 3)) ad) = q := ⟨_, rfl⟩
  have ht := tailNodeAt (k := k) h hc
  rw [hq] at ht ⊢
  have o2 := objAt_new W1 #[.slice ad p cap, .slice (some ⟨w.heap.size, 0, none⟩) 1 1, .slice q (xs.length - k) (cap - k)] 23
  rw [s1] at o2
  have b2 := below_one W1 (.cells #[.slice ad p cap, .slice (some ⟨w.heap.size, 0, none⟩) 1 1, .slice q (xs.length - k) (cap - k)] 23)
  have bb := below_trans b1 b2 b1.size
  obtain ⟨W2, h2⟩ : ∃ W, W1.alloc (.cells #[.slice ad p cap, .slice (some ⟨w.heap.size, 0, none⟩) 1 1, .slice q (xs.length - k) (cap - k)] 23) = W := ⟨_, rfl⟩
  rw [h2] at o2 b2 bb ⊢
  have z : ∀ i, W2.drew.cell? ⟨w.heap.size + 1, i, none⟩ = W2.cell? ⟨w.heap.size + 1, i, none⟩ := fun i => rfl
  refine ⟨objAt_lt (objAt_drew o2), fun i hi => ?_⟩
  have hi : i < 3 := hi
  obtain rfl | rfl | rfl : i = 0 ∨ i = 1 ∨ i = 2 := by omega
  · refine ⟨?_, nodesAt_next (nodesAt_take h p) bb.drew⟩
    show W2.drew.cell? _ = some (.slice ad (xs.take p).length cap)
    rw [z, List.length_take, Nat.min_eq_left hp]; exact objAt_cell o2 0 rfl
  · exact ⟨objAt_cell (objAt_drew o2) 1 rfl, oneNodeAt (objAt_drew (objAt_next o1 b2))⟩
  · refine ⟨?_, nodesAt_next ht bb.drew⟩
    show W2.drew.cell? _ = some (.slice q (xs.drop k).length (cap - k))
    rw [z, List.length_drop]; exact objAt_cell o2 2 rfl
theorem svCat3Node_is {a1 a2 a3 : Option Addr} {l1 l2 l3 out : List NodeD} {c1 c2 c3 ob c : Nat} {w : World} (he : l1 ++ l2 ++ l3 = out) (hl : out.length ≤ 1000) (hx : PartsNode w ob [(a1, l1, c1), (a2, l2, c2), (a3, l3, c3)]) :
    Calls Tryz.prog 99 #[.slice (some ⟨ob, 0, none⟩) 3 c] w fun e w' => ∃ ad cap, e = .returned (.slice ad out.length cap) ∧ w'.ownsRow w.heap.size 40 3 (.slice ad out.length cap) out.length (cNodes out) ∧ Below w.heap.size w w' := by
  have e : catNode [(a1, l1, c1), (a2, l2, c2), (a3, l3, c3)] = out := by rw [← he]; simp [catNode]
  have h := svCatNode_is [(a1, l1, c1), (a2, l2, c2), (a3, l3, c3)] ob c (by rw [e]; exact hl) (by simp) w hx
  rw [e] at h
  exact h
theorem svCat2Node_is {a1 a2 : Option Addr} {l1 l2 out : List NodeD} {c1 c2 ob c : Nat} {w : World} (he : l1 ++ l2 = out) (hl : out.length ≤ 1000) (hx : PartsNode w ob [(a1, l1, c1), (a2, l2, c2)]) :
    Calls Tryz.prog 99 #[.slice (some ⟨ob, 0, none⟩) 2 c] w fun e w' => ∃ ad cap, e = .returned (.slice ad out.length cap) ∧ w'.ownsRow w.heap.size 40 3 (.slice ad out.length cap) out.length (cNodes out) ∧ Below w.heap.size w w' := by
  have e : catNode [(a1, l1, c1), (a2, l2, c2)] = out := by rw [← he]; simp [catNode]
  have h := svCatNode_is [(a1, l1, c1), (a2, l2, c2)] ob c (by rw [e]; exact hl) (by simp) w hx
  rw [e] at h
  exact h
set_option maxRecDepth 100000 in
set_option maxHeartbeats 4000000 in
theorem svInsNode_old (xs : List NodeD) (ha : Asc (·.name) xs) (x : NodeD) (ad : Option Addr) (cap : Nat) (hl : xs.length ≤ 100) (hcap : xs.length ≤ cap) (hh : hasNode xs x.name = true) (w : World) (hx : NodesAt w ad xs) :
    Calls Tryz.prog 83 #[.slice ad xs.length cap, .agg #[.string x.name, .int .i64 x.room, .string x.zone], .func (.func 37) #[] #[]] w fun e w' => ∃ ad' cap', e = .returned (.slice ad' (putL (·.name) x xs).length cap') ∧ w'.ownsRow w.heap.size 40 3 (.slice ad' (putL (·.name) x xs).length cap') (putL (·.name) x xs).length (cNodes (putL (·.name) x xs)) ∧ Below w.heap.size w w' := by
  obtain ⟨W, hW⟩ : ∃ W, w.alloc (.cells #[.string x.name, .int .i64 x.room, .string x.zone] 40) = W := ⟨_, rfl⟩
  have bA := below_one w (.cells #[.string x.name, .int .i64 x.room, .string x.zone] 40)
  have oX := objAt_new w #[.string x.name, .int .i64 x.room, .string x.zone] 40
  rw [hW] at bA oX
  have x0 := objAt_cell oX 0 rfl
  have x1 := objAt_cell oX 1 rfl
  have x2 := objAt_cell oX 2 rfl
  have OX := Lib.hid oX
  have BA := Lib.hid bA
  have HX := Lib.hid hx
  have HA := Lib.hid ha
  have HH := Lib.hid hh
  clear oX bA hx ha
  go_enter Tryz.func83, Tryz.ntmps83
  go_wp2_with fail
  refine (nodeKey_eq x _).mono ?_
  rintro e w2 ⟨rfl, rfl⟩
  have b2 := below_one W (.cells #[.string x.name, .int .i64 x.room, .string x.zone] 40)
  have B2 := below_trans BA.out b2 BA.out.size
  have C1 := svFindNode_is xs HA.out x.name ad cap hl _ (nodesAt_next HX.out B2)
  rw [hh] at C1
  have C1 := Lib.hid C1
  have O2 := Lib.hid (objAt_next OX.out b2)
  have BB2 := Lib.hid B2
  clear b2 B2 hh
  go_wp2_with fail
  refine C1.out.mono ?_
  rintro e w3 ⟨p, rfl, hp, b3⟩
  have o3 := objAt_next O2.out b3
  have B3 := Lib.hid (below_trans BB2.out b3 BB2.out.size)
  have y0 := objAt_cell o3 0 rfl
  have y1 := objAt_cell o3 1 rfl
  have y2 := objAt_cell o3 2 rfl
  have hpl := hp.1
  have hpc : p ≤ cap := Nat.le_trans hpl hcap
  have HP := Lib.hid hp
  obtain ⟨hpp, hpe⟩ := pos_has HA.out hp ((hasNode_iff xs x.name).1 HH.out)
  have HE := Lib.hid (put_pos_old HA.out hp ((hasNode_iff xs x.name).1 HH.out))
  have hp1 : (0 : Int) ≤ (p : Int) + 1 ∧ (p : Int) + 1 ≤ (xs.length : Int) := ⟨by omega, by omega⟩
  obtain ⟨hp1, hp2⟩ := hp1
  clear hpe
  have hol := objAt_lt o3
  obtain ⟨out, hout⟩ : ∃ out, xs.take p ++ [x] ++ xs.drop (p + 1) = out := ⟨_, rfl⟩
  rw [hout] at HE
  have hlo : out.length ≤ 1000 := by have := put_len2 (·.name) x xs; rw [HE.out] at this; omega
  have C2 := Lib.hid (svCat3Node_is (c := 3) hout hlo (parts3Node w3 x ad xs cap p (p + 1) (nodesAt_next HX.out B3.out) hcap hpl))
  have BB : Hid (Below w.heap.size w (((w3.alloc (.cells #[.string x.name, .int .i64 x.room, .string x.zone] 40)).alloc (.cells #[.slice ad p cap, .slice (some ⟨w3.heap.size, 0, none⟩) 1 1, .slice (if cap = p + 1 then ad else Option.map (fun a => a.add ((p + 1) * 3)) ad) (xs.length - (p + 1)) (cap - (p + 1))] 23)).drew)) := ((B3.out.alloc B3.out.size _).alloc (by have s3 := B3.out.size; rw [World.size_alloc]; omega) _).drew
  clear hout o3 b3 hp C1 x0 x1 x2 HX HA HH O2 BB2 HP hlo
  go_wp2_with fail
  go_region_law (first | (go_simp; go_at_call 99; (with_reducible refine C2.out.mono ?_); rintro e v ⟨rad, rcap, rfl, rown, rb⟩))
  all_goals
    have RO := Lib.hid (ownsRow_low rown BB.out.size)
    have RB := Lib.hid (below_trans BB.out rb BB.out.size)
    clear rown rb BB C2 B3
    generalize (if cap = p + 1 then ad else Option.map (fun x => x.add ((p + 1) * 3)) ad) = qq
    go_wp2
    go_ret
    exact ⟨rad, rcap, by rw [HE.out]; rfl, by rw [HE.out]; exact RO.out, RB.out⟩
set_option maxRecDepth 100000 in
set_option maxHeartbeats 4000000 in
theorem svInsNode_new (xs : List NodeD) (ha : Asc (·.name) xs) (x : NodeD) (ad : Option Addr) (cap : Nat) (hl : xs.length ≤ 100) (hcap : xs.length ≤ cap) (hh : hasNode xs x.name = false) (w : World) (hx : NodesAt w ad xs) :
    Calls Tryz.prog 83 #[.slice ad xs.length cap, .agg #[.string x.name, .int .i64 x.room, .string x.zone], .func (.func 37) #[] #[]] w fun e w' => ∃ ad' cap', e = .returned (.slice ad' (putL (·.name) x xs).length cap') ∧ w'.ownsRow w.heap.size 40 3 (.slice ad' (putL (·.name) x xs).length cap') (putL (·.name) x xs).length (cNodes (putL (·.name) x xs)) ∧ Below w.heap.size w w' := by
  obtain ⟨W, hW⟩ : ∃ W, w.alloc (.cells #[.string x.name, .int .i64 x.room, .string x.zone] 40) = W := ⟨_, rfl⟩
  have bA := below_one w (.cells #[.string x.name, .int .i64 x.room, .string x.zone] 40)
  have oX := objAt_new w #[.string x.name, .int .i64 x.room, .string x.zone] 40
  rw [hW] at bA oX
  have x0 := objAt_cell oX 0 rfl
  have x1 := objAt_cell oX 1 rfl
  have x2 := objAt_cell oX 2 rfl
  have OX := Lib.hid oX
  have BA := Lib.hid bA
  have HX := Lib.hid hx
  have HA := Lib.hid ha
  have HH := Lib.hid hh
  clear oX bA hx ha
  go_enter Tryz.func83, Tryz.ntmps83
  go_wp2_with fail
  refine (nodeKey_eq x _).mono ?_
  rintro e w2 ⟨rfl, rfl⟩
  have b2 := below_one W (.cells #[.string x.name, .int .i64 x.room, .string x.zone] 40)
  have B2 := below_trans BA.out b2 BA.out.size
  have C1 := svFindNode_is xs HA.out x.name ad cap hl _ (nodesAt_next HX.out B2)
  rw [hh] at C1
  have C1 := Lib.hid C1
  have O2 := Lib.hid (objAt_next OX.out b2)
  have BB2 := Lib.hid B2
  clear b2 B2 hh
  go_wp2_with fail
  refine C1.out.mono ?_
  rintro e w3 ⟨p, rfl, hp, b3⟩
  have o3 := objAt_next O2.out b3
  have B3 := Lib.hid (below_trans BB2.out b3 BB2.out.size)
  have y0 := objAt_cell o3 0 rfl
  have y1 := objAt_cell o3 1 rfl
  have y2 := objAt_cell o3 2 rfl
  have hpl := hp.1
  have hpc : p ≤ cap := Nat.le_trans hpl hcap
  have HP := Lib.hid hp
  have HE := Lib.hid (put_pos_new hp (fun z hz e => by have := (hasNode_iff xs x.name).2 ⟨z, hz, e⟩; rw [HH.out] at this; cases this))
  have hol := objAt_lt o3
  obtain ⟨out, hout⟩ : ∃ out, xs.take p ++ [x] ++ xs.drop (p) = out := ⟨_, rfl⟩
  rw [hout] at HE
  have hlo : out.length ≤ 1000 := by have := put_len2 (·.name) x xs; rw [HE.out] at this; omega
  have C2 := Lib.hid (svCat3Node_is (c := 3) hout hlo (parts3Node w3 x ad xs cap p (p) (nodesAt_next HX.out B3.out) hcap hpl))
  have BB : Hid (Below w.heap.size w (((w3.alloc (.cells #[.string x.name, .int .i64 x.room, .string x.zone] 40)).alloc (.cells #[.slice ad p cap, .slice (some ⟨w3.heap.size, 0, none⟩) 1 1, .slice (if cap = p then ad else Option.map (fun a => a.add ((p) * 3)) ad) (xs.length - (p)) (cap - (p))] 23)).drew)) := ((B3.out.alloc B3.out.size _).alloc (by have s3 := B3.out.size; rw [World.size_alloc]; omega) _).drew
  clear hout o3 b3 hp C1 x0 x1 x2 HX HA HH O2 BB2 HP hlo
  go_wp2_with fail
  go_region_law (first | (go_simp; go_at_call 99; (with_reducible refine C2.out.mono ?_); rintro e v ⟨rad, rcap, rfl, rown, rb⟩))
  all_goals
    have RO := Lib.hid (ownsRow_low rown BB.out.size)
    have RB := Lib.hid (below_trans BB.out rb BB.out.size)
    clear rown rb BB C2 B3
    generalize (if cap = p then ad else Option.map (fun x => x.add ((p) * 3)) ad) = qq
    go_wp2
    go_ret
    exact ⟨rad, rcap, by rw [HE.out]; rfl, by rw [HE.out]; exact RO.out, RB.out⟩

/-! ### Lease -/
theorem oneLeaseAt {L : Nat} {x : LeaseD} {w : World} (o : ObjAt L #[.string x.job, .string x.node, .int .i64 x.til] 42 w) : LeasesAt w (some ⟨L, 0, none⟩) [x] := by
  intro i hi
  obtain rfl : i = 0 := by simpa using hi
  refine ⟨⟨L, 0, none⟩, rfl, objAt_lt o, ?_, ?_, ?_⟩
  · simpa [Addr.add] using objAt_cell o 0 rfl
  · simpa [Addr.add] using objAt_cell o 1 rfl
  · simpa [Addr.add] using objAt_cell o 2 rfl
theorem tailLeaseAt {w : World} {ad : Option Addr} {xs : List LeaseD} {cap k : Nat} (h : LeasesAt w ad xs) (hc : xs.length ≤ cap) : LeasesAt w (if cap = k then ad else Option.map (fun a => a.add (k * 3)) ad) (xs.drop k) := by
  split
  · rw [List.drop_eq_nil_of_le (by omega)]; intro i hi; simp at hi
  · cases ad with
    | none => intro i hi; obtain ⟨a, ha, _⟩ := h 0 (by simp at hi; omega); cases ha
    | some a => exact leasesAt_drop h k
theorem parts3Lease (w : World) (x : LeaseD) (ad : Option Addr) (xs : List LeaseD) (cap p k : Nat) (h : LeasesAt w ad xs) (hc : xs.length ≤ cap) (hp : p ≤ xs.length) : PartsLease (((w.alloc (.cells #[.string x.job, .string x.node, .int .i64 x.til] 42)).alloc (.cells #[.slice ad p cap, .slice (some ⟨w.heap.size, 0, none⟩) 1 1, .slice (if cap = k then ad else Option.map (fun a => a.add (k * 3)) ad) (xs.length - k) (cap - k)] 24)).drew) (w.heap.size + 1) [(ad, xs.take p, cap), (some ⟨w.heap.size, 0, none⟩, [x], 1), (if cap = k then ad else Option.map (fun a => a.add (k * 3)) ad, xs.drop k, cap - k)] := by
  have o1 := objAt_new w #[.string x.job, .string x.node, .int .i64 x.til] 42
  have b1 := below_one w (.cells #[.string x.job, .string x.node, .int .i64 x.til] 42)
  obtain ⟨W1, h1⟩ : ∃ W, w.alloc (.cells #[.string x.job, .string x.node, .int .i64 x.til] 42) = W := ⟨_, rfl⟩
  rw [h1] at o1 b1 ⊢
  have s1 : W1.heap.size = w.heap.size + 1 := by rw [← h1, World.size_alloc]
  obtain ⟨q, hq⟩ : ∃ q, (if cap = k then ad else Option.map (fun a => a.add (k * 3)) ad) = q := ⟨_, rfl⟩
  have ht := tailLeaseAt (k := k) h hc
  rw [hq] at ht ⊢
  have o2 := objAt_new W1 #[.slice ad p cap, .slice (some ⟨w.heap.size, 0, none⟩) 1 1, .slice q (xs.length - k) (cap - k)] 24
  rw [s1] at o2
  have b2 := below_one W1 (.cells #[.slice ad p cap, .slice (some ⟨w.heap.size, 0, none⟩) 1 1, .slice q (xs.length - k) (cap - k)] 24)
  have bb := below_trans b1 b2 b1.size
  obtain ⟨W2, h2⟩ : ∃ W, W1.alloc (.cells #[.slice ad p cap, .slice (some ⟨w.heap.size, 0, none⟩) 1 1, .slice q (xs.length - k) (cap - k)] 24) = W := ⟨_, rfl⟩
  rw [h2] at o2 b2 bb ⊢
  have z : ∀ i, W2.drew.cell? ⟨w.heap.size + 1, i, none⟩ = W2.cell? ⟨w.heap.size + 1, i, none⟩ := fun i => rfl
  refine ⟨objAt_lt (objAt_drew o2), fun i hi => ?_⟩
  have hi : i < 3 := hi
  obtain rfl | rfl | rfl : i = 0 ∨ i = 1 ∨ i = 2 := by omega
  · refine ⟨?_, leasesAt_next (leasesAt_take h p) bb.drew⟩
    show W2.drew.cell? _ = some (.slice ad (xs.take p).length cap)
    rw [z, List.length_take, Nat.min_eq_left hp]; exact objAt_cell o2 0 rfl
  · exact ⟨objAt_cell (objAt_drew o2) 1 rfl, oneLeaseAt (objAt_drew (objAt_next o1 b2))⟩
  · refine ⟨?_, leasesAt_next ht bb.drew⟩
    show W2.drew.cell? _ = some (.slice q (xs.drop k).length (cap - k))
    rw [z, List.length_drop]; exact objAt_cell o2 2 rfl
theorem svCat3Lease_is {a1 a2 a3 : Option Addr} {l1 l2 l3 out : List LeaseD} {c1 c2 c3 ob c : Nat} {w : World} (he : l1 ++ l2 ++ l3 = out) (hl : out.length ≤ 1000) (hx : PartsLease w ob [(a1, l1, c1), (a2, l2, c2), (a3, l3, c3)]) :
    Calls Tryz.prog 125 #[.slice (some ⟨ob, 0, none⟩) 3 c] w fun e w' => ∃ ad cap, e = .returned (.slice ad out.length cap) ∧ w'.ownsRow w.heap.size 42 3 (.slice ad out.length cap) out.length (cLeases out) ∧ Below w.heap.size w w' := by
  have e : catLease [(a1, l1, c1), (a2, l2, c2), (a3, l3, c3)] = out := by rw [← he]; simp [catLease]
  have h := svCatLease_is [(a1, l1, c1), (a2, l2, c2), (a3, l3, c3)] ob c (by rw [e]; exact hl) (by simp) w hx
  rw [e] at h
  exact h
theorem svCat2Lease_is {a1 a2 : Option Addr} {l1 l2 out : List LeaseD} {c1 c2 ob c : Nat} {w : World} (he : l1 ++ l2 = out) (hl : out.length ≤ 1000) (hx : PartsLease w ob [(a1, l1, c1), (a2, l2, c2)]) :
    Calls Tryz.prog 125 #[.slice (some ⟨ob, 0, none⟩) 2 c] w fun e w' => ∃ ad cap, e = .returned (.slice ad out.length cap) ∧ w'.ownsRow w.heap.size 42 3 (.slice ad out.length cap) out.length (cLeases out) ∧ Below w.heap.size w w' := by
  have e : catLease [(a1, l1, c1), (a2, l2, c2)] = out := by rw [← he]; simp [catLease]
  have h := svCatLease_is [(a1, l1, c1), (a2, l2, c2)] ob c (by rw [e]; exact hl) (by simp) w hx
  rw [e] at h
  exact h
set_option maxRecDepth 100000 in
set_option maxHeartbeats 4000000 in
theorem svInsLease_old (xs : List LeaseD) (ha : Asc (·.job) xs) (x : LeaseD) (ad : Option Addr) (cap : Nat) (hl : xs.length ≤ 100) (hcap : xs.length ≤ cap) (hh : hasLease xs x.job = true) (w : World) (hx : LeasesAt w ad xs) :
    Calls Tryz.prog 104 #[.slice ad xs.length cap, .agg #[.string x.job, .string x.node, .int .i64 x.til], .func (.func 41) #[] #[]] w fun e w' => ∃ ad' cap', e = .returned (.slice ad' (putL (·.job) x xs).length cap') ∧ w'.ownsRow w.heap.size 42 3 (.slice ad' (putL (·.job) x xs).length cap') (putL (·.job) x xs).length (cLeases (putL (·.job) x xs)) ∧ Below w.heap.size w w' := by
  obtain ⟨W, hW⟩ : ∃ W, w.alloc (.cells #[.string x.job, .string x.node, .int .i64 x.til] 42) = W := ⟨_, rfl⟩
  have bA := below_one w (.cells #[.string x.job, .string x.node, .int .i64 x.til] 42)
  have oX := objAt_new w #[.string x.job, .string x.node, .int .i64 x.til] 42
  rw [hW] at bA oX
  have x0 := objAt_cell oX 0 rfl
  have x1 := objAt_cell oX 1 rfl
  have x2 := objAt_cell oX 2 rfl
  have OX := Lib.hid oX
  have BA := Lib.hid bA
  have HX := Lib.hid hx
  have HA := Lib.hid ha
  have HH := Lib.hid hh
  clear oX bA hx ha
  go_enter Tryz.func104, Tryz.ntmps104
  go_wp2_with fail
  refine (leaseKey_eq x _).mono ?_
  rintro e w2 ⟨rfl, rfl⟩
  have b2 := below_one W (.cells #[.string x.job, .string x.node, .int .i64 x.til] 42)
  have B2 := below_trans BA.out b2 BA.out.size
  have C1 := svFindLease_is xs HA.out x.job ad cap hl _ (leasesAt_next HX.out B2)
  rw [hh] at C1
  have C1 := Lib.hid C1
  have O2 := Lib.hid (objAt_next OX.out b2)
  have BB2 := Lib.hid B2
  clear b2 B2 hh
  go_wp2_with fail
  refine C1.out.mono ?_
  rintro e w3 ⟨p, rfl, hp, b3⟩
  have o3 := objAt_next O2.out b3
  have B3 := Lib.hid (below_trans BB2.out b3 BB2.out.size)
  have y0 := objAt_cell o3 0 rfl
  have y1 := objAt_cell o3 1 rfl
  have y2 := objAt_cell o3 2 rfl
  have hpl := hp.1
  have hpc : p ≤ cap := Nat.le_trans hpl hcap
  have HP := Lib.hid hp
  obtain ⟨hpp, hpe⟩ := pos_has HA.out hp ((hasLease_iff xs x.job).1 HH.out)
  have HE := Lib.hid (put_pos_old HA.out hp ((hasLease_iff xs x.job).1 HH.out))
  have hp1 : (0 : Int) ≤ (p : Int) + 1 ∧ (p : Int) + 1 ≤ (xs.length : Int) := ⟨by omega, by omega⟩
  obtain ⟨hp1, hp2⟩ := hp1
  clear hpe
  have hol := objAt_lt o3
  obtain ⟨out, hout⟩ : ∃ out, xs.take p ++ [x] ++ xs.drop (p + 1) = out := ⟨_, rfl⟩
  rw [hout] at HE
  have hlo : out.length ≤ 1000 := by have := put_len2 (·.job) x xs; rw [HE.out] at this; omega
  have C2 := Lib.hid (svCat3Lease_is (c := 3) hout hlo (parts3Lease w3 x ad xs cap p (p + 1) (leasesAt_next HX.out B3.out) hcap hpl))
  have BB : Hid (Below w.heap.size w (((w3.alloc (.cells #[.string x.job, .string x.node, .int .i64 x.til] 42)).alloc (.cells #[.slice ad p cap, .slice (some ⟨w3.heap.size, 0, none⟩) 1 1, .slice (if cap = p + 1 then ad else Option.map (fun a => a.add ((p + 1) * 3)) ad) (xs.length - (p + 1)) (cap - (p + 1))] 24)).drew)) := ((B3.out.alloc B3.out.size _).alloc (by have s3 := B3.out.size; rw [World.size_alloc]; omega) _).drew
  clear hout o3 b3 hp C1 x0 x1 x2 HX HA HH O2 BB2 HP hlo
  go_wp2_with fail
  go_region_law (first | (go_simp; go_at_call 125; (with_reducible refine C2.out.mono ?_); rintro e v ⟨rad, rcap, rfl, rown, rb⟩))
  all_goals
    have RO := Lib.hid (ownsRow_low rown BB.out.size)
    have RB := Lib.hid (below_trans BB.out rb BB.out.size)
    clear rown rb BB C2 B3
    generalize (if cap = p + 1 then ad else Option.map (fun x => x.add ((p + 1) * 3)) ad) = qq
    go_wp2
    go_ret
    exact ⟨rad, rcap, by rw [HE.out]; rfl, by rw [HE.out]; exact RO.out, RB.out⟩
set_option maxRecDepth 100000 in
set_option maxHeartbeats 4000000 in
theorem svInsLease_new (xs : List LeaseD) (ha : Asc (·.job) xs) (x : LeaseD) (ad : Option Addr) (cap : Nat) (hl : xs.length ≤ 100) (hcap : xs.length ≤ cap) (hh : hasLease xs x.job = false) (w : World) (hx : LeasesAt w ad xs) :
    Calls Tryz.prog 104 #[.slice ad xs.length cap, .agg #[.string x.job, .string x.node, .int .i64 x.til], .func (.func 41) #[] #[]] w fun e w' => ∃ ad' cap', e = .returned (.slice ad' (putL (·.job) x xs).length cap') ∧ w'.ownsRow w.heap.size 42 3 (.slice ad' (putL (·.job) x xs).length cap') (putL (·.job) x xs).length (cLeases (putL (·.job) x xs)) ∧ Below w.heap.size w w' := by
  obtain ⟨W, hW⟩ : ∃ W, w.alloc (.cells #[.string x.job, .string x.node, .int .i64 x.til] 42) = W := ⟨_, rfl⟩
  have bA := below_one w (.cells #[.string x.job, .string x.node, .int .i64 x.til] 42)
  have oX := objAt_new w #[.string x.job, .string x.node, .int .i64 x.til] 42
  rw [hW] at bA oX
  have x0 := objAt_cell oX 0 rfl
  have x1 := objAt_cell oX 1 rfl
  have x2 := objAt_cell oX 2 rfl
  have OX := Lib.hid oX
  have BA := Lib.hid bA
  have HX := Lib.hid hx
  have HA := Lib.hid ha
  have HH := Lib.hid hh
  clear oX bA hx ha
  go_enter Tryz.func104, Tryz.ntmps104
  go_wp2_with fail
  refine (leaseKey_eq x _).mono ?_
  rintro e w2 ⟨rfl, rfl⟩
  have b2 := below_one W (.cells #[.string x.job, .string x.node, .int .i64 x.til] 42)
  have B2 := below_trans BA.out b2 BA.out.size
  have C1 := svFindLease_is xs HA.out x.job ad cap hl _ (leasesAt_next HX.out B2)
  rw [hh] at C1
  have C1 := Lib.hid C1
  have O2 := Lib.hid (objAt_next OX.out b2)
  have BB2 := Lib.hid B2
  clear b2 B2 hh
  go_wp2_with fail
  refine C1.out.mono ?_
  rintro e w3 ⟨p, rfl, hp, b3⟩
  have o3 := objAt_next O2.out b3
  have B3 := Lib.hid (below_trans BB2.out b3 BB2.out.size)
  have y0 := objAt_cell o3 0 rfl
  have y1 := objAt_cell o3 1 rfl
  have y2 := objAt_cell o3 2 rfl
  have hpl := hp.1
  have hpc : p ≤ cap := Nat.le_trans hpl hcap
  have HP := Lib.hid hp
  have HE := Lib.hid (put_pos_new hp (fun z hz e => by have := (hasLease_iff xs x.job).2 ⟨z, hz, e⟩; rw [HH.out] at this; cases this))
  have hol := objAt_lt o3
  obtain ⟨out, hout⟩ : ∃ out, xs.take p ++ [x] ++ xs.drop (p) = out := ⟨_, rfl⟩
  rw [hout] at HE
  have hlo : out.length ≤ 1000 := by have := put_len2 (·.job) x xs; rw [HE.out] at this; omega
  have C2 := Lib.hid (svCat3Lease_is (c := 3) hout hlo (parts3Lease w3 x ad xs cap p (p) (leasesAt_next HX.out B3.out) hcap hpl))
  have BB : Hid (Below w.heap.size w (((w3.alloc (.cells #[.string x.job, .string x.node, .int .i64 x.til] 42)).alloc (.cells #[.slice ad p cap, .slice (some ⟨w3.heap.size, 0, none⟩) 1 1, .slice (if cap = p then ad else Option.map (fun a => a.add ((p) * 3)) ad) (xs.length - (p)) (cap - (p))] 24)).drew)) := ((B3.out.alloc B3.out.size _).alloc (by have s3 := B3.out.size; rw [World.size_alloc]; omega) _).drew
  clear hout o3 b3 hp C1 x0 x1 x2 HX HA HH O2 BB2 HP hlo
  go_wp2_with fail
  go_region_law (first | (go_simp; go_at_call 125; (with_reducible refine C2.out.mono ?_); rintro e v ⟨rad, rcap, rfl, rown, rb⟩))
  all_goals
    have RO := Lib.hid (ownsRow_low rown BB.out.size)
    have RB := Lib.hid (below_trans BB.out rb BB.out.size)
    clear rown rb BB C2 B3
    generalize (if cap = p then ad else Option.map (fun x => x.add ((p) * 3)) ad) = qq
    go_wp2
    go_ret
    exact ⟨rad, rcap, by rw [HE.out]; rfl, by rw [HE.out]; exact RO.out, RB.out⟩
end Go.Proofs.YtiekgafopalfmaaGreatDoor
