/- find: a row's place by its key. -/
import Derived.Test.YthpgkfonbmffdaaGreatDoorSvPlain
import Derived.Test.YthpgkfonbmffdaaGreatDoorDlCmp
namespace Go.Proofs.YthpgkfonbmffdaaGreatDoor
open Go.RowKit Go.Lib

/-- How many rows stand ahead of a key. -/
def PosP {α : Type} (key : α → ByteArray) (l : List α) (x : ByteArray) (p : Nat) : Prop := p ≤ l.length ∧ (∀ t (h : t < l.length), t < p → lt (key l[t]) x) ∧ ∀ t (h : t < l.length), p ≤ t → ¬ lt (key l[t]) x
theorem cmpB_lt (a b : ByteArray) : decide (Lib.compareBytes a.data.toList b.data.toList < 0) = decide (lt a b) := by rw [cmp_lt, less_is]
theorem cmpB_neg {a b : ByteArray} (h : lt a b) : Lib.compareBytes a.data.toList b.data.toList < 0 := by have := cmpB_lt a b; rw [decide_eq_true h] at this; exact of_decide_eq_true this
theorem cmpB_pos {a b : ByteArray} (h : ¬ lt a b) : ¬ Lib.compareBytes a.data.toList b.data.toList < 0 := by have := cmpB_lt a b; rw [decide_eq_false h] at this; exact of_decide_eq_false this
theorem compare_zero : ∀ a b : List UInt8, Lib.compareBytes a b = 0 ↔ a = b
  | [], [] => by simp [Lib.compareBytes]
  | [], _ :: _ => by simp [Lib.compareBytes]
  | _ :: _, [] => by simp [Lib.compareBytes]
  | x :: a, y :: b => by
    have ih := compare_zero a b
    unfold Lib.compareBytes
    by_cases h1 : x < y
    · have hn : x ≠ y := fun e => by subst e; exact absurd h1 (UInt8.lt_irrefl _)
      simp [h1, hn]
    · by_cases h2 : y < x
      · have hn : x ≠ y := fun e => by subst e; exact absurd h2 (UInt8.lt_irrefl _)
        simp [h1, h2, hn]
      · have he : x = y := UInt8.le_antisymm (UInt8.not_lt.1 h2) (UInt8.not_lt.1 h1)
        subst he
        simp [h1, ih]
theorem cmpB_zero (a b : ByteArray) : Lib.compareBytes a.data.toList b.data.toList = 0 ↔ a = b := by
  rw [compare_zero]
  exact ⟨fun h => by cases a; cases b; simp only [ByteArray.mk.injEq]; exact Array.toList_inj.1 h, fun h => by rw [h]⟩
section
variable {α : Type} {key : α → ByteArray} {l : List α} {x : ByteArray}
theorem pos_up (ha : Asc key l) {m : Nat} (hm : m < l.length) (h : lt (key l[m]) x) : ∀ t (ht : t < l.length), t < m + 1 → lt (key l[t]) x := by
  intro t ht htm
  by_cases e : t = m
  · subst e; exact h
  · exact lt_trans (List.pairwise_iff_getElem.1 ha t m ht hm (by omega)) h
theorem pos_down (ha : Asc key l) {m : Nat} (hm : m < l.length) (h : ¬ lt (key l[m]) x) : ∀ t (ht : t < l.length), m ≤ t → ¬ lt (key l[t]) x := by
  intro t ht hmt hlt
  by_cases e : t = m
  · subst e; exact h hlt
  · exact h (lt_trans (List.pairwise_iff_getElem.1 ha m t hm ht (by omega)) hlt)
theorem pos_none (ha : Asc key l) {p : Nat} (h : PosP key l x p) (hn : ∀ hp : p < l.length, key l[p] ≠ x) : ∀ z ∈ l, key z ≠ x := by
  intro z hz e
  obtain ⟨t, ht, rfl⟩ := List.getElem_of_mem hz
  by_cases h1 : t < p
  · exact lt_ne (h.2.1 t ht h1) e
  · have hp : p < l.length := by omega
    by_cases h2 : t = p
    · subst h2; exact hn ht e
    · have h3 := List.pairwise_iff_getElem.1 ha p t hp ht (by omega)
      rw [e] at h3
      exact h.2.2 p hp (Nat.le_refl _) h3
end


/-! ### Job -/
set_option maxRecDepth 100000 in
theorem svCmpJob_is (x : JobD) (k : ByteArray) (kb : Nat) (w : World) (hk : w.cell? ⟨kb, 0, none⟩ = some (.func (.func 51) #[] #[])) (hkl : kb < w.heap.size) :
    Calls Tryz.prog 164 #[.agg #[.string x.name, .int .i64 x.prio, .int .i64 x.need, .int .i64 x.tries, .string x.tag], .string k, .pointer (some ⟨kb, 0, none⟩)] w fun e w' => e = .returned (.int .i64 (Lib.compareBytes x.name.data.toList k.data.toList)) ∧ Below w.heap.size w w' := by
  have HC := Lib.hid (fun W => Any.strings_Compare Tryz.layCompare x.name k W)
  have bA := below_one w (.cells #[.string x.name, .int .i64 x.prio, .int .i64 x.need, .int .i64 x.tries, .string x.tag] 38)
  have oX := objAt_new w #[.string x.name, .int .i64 x.prio, .int .i64 x.need, .int .i64 x.tries, .string x.tag] 38
  have hk2 : (w.alloc (.cells #[.string x.name, .int .i64 x.prio, .int .i64 x.need, .int .i64 x.tries, .string x.tag] 38)).cell? ⟨kb, 0, none⟩ = some (.func (.func 51) #[] #[]) := by rw [bA.cell (p := ⟨kb, 0, none⟩) hkl]; exact hk
  obtain ⟨W, hW⟩ : ∃ W, w.alloc (.cells #[.string x.name, .int .i64 x.prio, .int .i64 x.need, .int .i64 x.tries, .string x.tag] 38) = W := ⟨_, rfl⟩
  rw [hW] at bA oX hk2
  have x0 := objAt_cell oX 0 rfl
  have x1 := objAt_cell oX 1 rfl
  have x2 := objAt_cell oX 2 rfl
  have x3 := objAt_cell oX 3 rfl
  have x4 := objAt_cell oX 4 rfl
  have BA := Lib.hid bA
  clear bA oX hk
  go_enter Tryz.func164, Tryz.ntmps164
  go_wp2_with fail
  refine (jobKey_eq x _).mono ?_
  rintro e w2 ⟨rfl, rfl⟩
  have b2 := Lib.hid (below_one W (.cells #[.string x.name, .int .i64 x.prio, .int .i64 x.need, .int .i64 x.tries, .string x.tag] 38))
  go_wp2_with fail
  refine (HC.out _).mono ?_
  rintro e w3 ⟨rfl, rfl⟩
  go_wp2
  go_ret
  exact ⟨rfl, below_trans BA.out b2.out BA.out.size⟩
set_option maxRecDepth 100000 in
set_option maxHeartbeats 4000000 in
theorem svBinJob_is (xs : List JobD) (ha : Asc (·.name) xs) (k : ByteArray) (ad : Option Addr) (cap : Nat) (hl : xs.length ≤ 100) (kb : Nat) (w : World) (hk : w.cell? ⟨kb, 0, none⟩ = some (.func (.func 51) #[] #[])) (hkl : kb < w.heap.size) (hx : JobsAt w ad xs) :
    Calls Tryz.prog 163 #[.slice ad xs.length cap, .string k, .func (.func 164) #[] #[.pointer (some ⟨kb, 0, none⟩)]] w fun e w' => ∃ p : Nat, e = .returned (.tuple #[.int .i64 (p : Int), .bool (hasJob xs k)]) ∧ PosP (·.name) xs k p ∧ Below w.heap.size w w' := by
  have HX := Lib.hid hx
  have HA := Lib.hid ha
  have HK := Lib.hid hk
  clear hx ha hk
  go_enter Tryz.func163, Tryz.ntmps163
  go_wp2
  go_loopw [9, 10] (fun iv jv wr => ∃ lo hi : Nat, iv = .int .i64 (lo : Int) ∧ jv = .int .i64 (hi : Int) ∧ lo ≤ hi ∧ hi ≤ xs.length ∧ Hid ((∀ t (h : t < xs.length), t < lo → lt xs[t].name k) ∧ ∀ t (h : t < xs.length), hi ≤ t → ¬ lt xs[t].name k) ∧ Below w.heap.size w wr) (fun iv jv _ => (intOf jv - intOf iv).toNat)
  case atStart => exact ⟨0, xs.length, rfl, rfl, Nat.zero_le _, Nat.le_refl _, ⟨fun t _ h => absurd h (Nat.not_lt_zero _), fun t h h2 => by omega⟩, Below.refl _ _⟩
  case round =>
    obtain ⟨lo, hi, rfl, rfl, hlh, hhi, HI, hbr⟩ := hrel
    by_cases hlt : lo < hi
    · obtain ⟨m, hm⟩ : ∃ m : Nat, (lo + hi) / 2 = m := ⟨_, rfl⟩
      have hmz : ((lo : Int) + (hi : Int)) / 2 = (m : Int) := by omega
      have hml : m < xs.length := by omega
      obtain ⟨a, rfl, hal, k0, k1, k2, k3, k4⟩ := jobsAt_next HX.out hbr m hml
      obtain ⟨y, hy⟩ : ∃ y, xs[m] = y := ⟨_, rfl⟩
      rw [hy] at k0 k1 k2 k3 k4
      have HY := Lib.hid hy
      have hkr : wr.cell? ⟨kb, 0, none⟩ = some (.func (.func 51) #[] #[]) := by rw [hbr.cell (p := ⟨kb, 0, none⟩) hkl]; exact HK.out
      have C1 := svCmpJob_is y k kb wr hkr (Nat.lt_of_lt_of_le hkl hbr.size)
      obtain ⟨c, hc⟩ : ∃ c, Lib.compareBytes y.name.data.toList k.data.toList = c := ⟨_, rfl⟩
      rw [hc] at C1
      have C1 := Lib.hid C1
      have HB := Lib.hid hbr
      clear hy hbr hkr
      by_cases hcl : c < 0
      · have HQ := Lib.hid (show lt xs[m].name k by rw [HY.out]; exact Classical.byContradiction fun z => absurd hcl (by rw [← hc]; exact cmpB_pos z))
        clear hc HY
        go_wp2_with fail
        refine C1.out.mono ?_
        rintro e w2 ⟨rfl, b2⟩
        have B2 := Lib.hid (below_trans HB.out b2 HB.out.size)
        clear b2 k0 k1 k2 k3 k4 hal
        go_wp2
        go_roundw
        case rel => exact ⟨m + 1, hi, by simp, rfl, by omega, hhi, ⟨pos_up HA.out hml HQ.out, HI.out.2⟩, B2.out⟩
        case measure => simp [intOf]; omega
      · have HQ := Lib.hid (show ¬ lt xs[m].name k by rw [HY.out]; exact fun z => hcl (by rw [← hc]; exact cmpB_neg z))
        clear hc HY
        go_wp2_with fail
        refine C1.out.mono ?_
        rintro e w2 ⟨rfl, b2⟩
        have B2 := Lib.hid (below_trans HB.out b2 HB.out.size)
        clear b2 k0 k1 k2 k3 k4 hal
        go_wp2
        go_roundw
        case rel => exact ⟨lo, m, rfl, rfl, by omega, by omega, ⟨HI.out.1, pos_down HA.out hml HQ.out⟩, B2.out⟩
        case measure => simp [intOf]; omega
    · obtain rfl : lo = hi := by omega
      have HP : Hid (PosP (·.name) xs k lo) := ⟨hhi, HI.out⟩
      by_cases hin : lo < xs.length
      · obtain ⟨a, rfl, hal, k0, k1, k2, k3, k4⟩ := jobsAt_next HX.out hbr lo hin
        obtain ⟨y, hy⟩ : ∃ y, xs[lo] = y := ⟨_, rfl⟩
        rw [hy] at k0 k1 k2 k3 k4
        have HY := Lib.hid hy
        have hkr : wr.cell? ⟨kb, 0, none⟩ = some (.func (.func 51) #[] #[]) := by rw [hbr.cell (p := ⟨kb, 0, none⟩) hkl]; exact HK.out
        have C1 := svCmpJob_is y k kb wr hkr (Nat.lt_of_lt_of_le hkl hbr.size)
        obtain ⟨c, hc⟩ : ∃ c, Lib.compareBytes y.name.data.toList k.data.toList = c := ⟨_, rfl⟩
        rw [hc] at C1
        have C1 := Lib.hid C1
        have HB := Lib.hid hbr
        clear hy hbr hkr
        by_cases hcz : c = 0
        · have HF : Hid (hasJob xs k = true) := (hasJob_iff xs k).2 ⟨xs[lo], List.getElem_mem hin, by rw [HY.out]; exact (cmpB_zero _ _).1 (hc.trans hcz)⟩
          subst hcz
          clear hc HY
          go_wp2_with fail
          refine C1.out.mono ?_
          rintro e w2 ⟨rfl, b2⟩
          have B2 := Lib.hid (below_trans HB.out b2 HB.out.size)
          clear b2 k0 k1 k2 k3 k4 hal
          go_wp2
          go_ret2
          exact ⟨lo, by rw [HF.out]; first | rfl | simp, HP.out, B2.out⟩
        · have HF : Hid (hasJob xs k = false) := by
            show _ = _
            cases e : hasJob xs k with
            | false => rfl
            | true =>
              obtain ⟨z, hz, ez⟩ := (hasJob_iff xs k).1 e
              exact absurd ez (pos_none HA.out HP.out (fun hp => by rw [HY.out]; exact fun q => hcz (by rw [← hc]; exact (cmpB_zero _ _).2 q)) z hz)
          have hcb : (c == 0) = false := by simpa using hcz
          clear hc HY
          go_wp2_with fail
          refine C1.out.mono ?_
          rintro e w2 ⟨rfl, b2⟩
          have B2 := Lib.hid (below_trans HB.out b2 HB.out.size)
          clear b2 k0 k1 k2 k3 k4 hal
          go_wp2
          go_ret2
          exact ⟨lo, by rw [HF.out]; first | rfl | simp, HP.out, B2.out⟩
      · have HF : Hid (hasJob xs k = false) := by
          show _ = _
          cases e : hasJob xs k with
          | false => rfl
          | true =>
            obtain ⟨z, hz, ez⟩ := (hasJob_iff xs k).1 e
            exact absurd ez (pos_none HA.out HP.out (fun hp => absurd hp hin) z hz)
        have HB := Lib.hid hbr
        clear hbr
        go_wp2
        go_ret2
        exact ⟨lo, by rw [HF.out]; first | rfl | simp, HP.out, HB.out⟩
set_option maxRecDepth 100000 in
theorem svFindJob_is (xs : List JobD) (ha : Asc (·.name) xs) (k : ByteArray) (ad : Option Addr) (cap : Nat) (hl : xs.length ≤ 100) (w : World) (hx : JobsAt w ad xs) :
    Calls Tryz.prog 135 #[.slice ad xs.length cap, .string k, .func (.func 51) #[] #[]] w fun e w' => ∃ p : Nat, e = .returned (.tuple #[.int .i64 (p : Int), .bool (hasJob xs k)]) ∧ PosP (·.name) xs k p ∧ Below w.heap.size w w' := by
  have bA := below_one w (.cells #[.func (.func 51) #[] #[]] 91)
  have oK := objAt_new w #[.func (.func 51) #[] #[]] 91
  have C1 := Lib.hid (svBinJob_is xs ha k ad cap hl w.heap.size _ (objAt_cell oK 0 rfl) (objAt_lt oK) (jobsAt_next hx bA))
  have BA := Lib.hid bA
  clear bA oK hx
  go_enter Tryz.func135, Tryz.ntmps135
  go_wp2_with fail
  refine C1.out.mono ?_
  rintro e w2 ⟨p, rfl, hp, b2⟩
  have HP := Lib.hid hp
  have B2 := Lib.hid (below_trans BA.out b2 BA.out.size)
  clear b2 hp
  go_wp2
  go_ret2
  exact ⟨p, rfl, HP.out, B2.out⟩

/-! ### Node -/
set_option maxRecDepth 100000 in
theorem svCmpNode_is (x : NodeD) (k : ByteArray) (kb : Nat) (w : World) (hk : w.cell? ⟨kb, 0, none⟩ = some (.func (.func 54) #[] #[])) (hkl : kb < w.heap.size) :
    Calls Tryz.prog 167 #[.agg #[.string x.name, .int .i64 x.room, .string x.zone], .string k, .pointer (some ⟨kb, 0, none⟩)] w fun e w' => e = .returned (.int .i64 (Lib.compareBytes x.name.data.toList k.data.toList)) ∧ Below w.heap.size w w' := by
  have HC := Lib.hid (fun W => Any.strings_Compare Tryz.layCompare x.name k W)
  have bA := below_one w (.cells #[.string x.name, .int .i64 x.room, .string x.zone] 40)
  have oX := objAt_new w #[.string x.name, .int .i64 x.room, .string x.zone] 40
  have hk2 : (w.alloc (.cells #[.string x.name, .int .i64 x.room, .string x.zone] 40)).cell? ⟨kb, 0, none⟩ = some (.func (.func 54) #[] #[]) := by rw [bA.cell (p := ⟨kb, 0, none⟩) hkl]; exact hk
  obtain ⟨W, hW⟩ : ∃ W, w.alloc (.cells #[.string x.name, .int .i64 x.room, .string x.zone] 40) = W := ⟨_, rfl⟩
  rw [hW] at bA oX hk2
  have x0 := objAt_cell oX 0 rfl
  have x1 := objAt_cell oX 1 rfl
  have x2 := objAt_cell oX 2 rfl
  have BA := Lib.hid bA
  clear bA oX hk
  go_enter Tryz.func167, Tryz.ntmps167
  go_wp2_with fail
  refine (nodeKey_eq x _).mono ?_
  rintro e w2 ⟨rfl, rfl⟩
  have b2 := Lib.hid (below_one W (.cells #[.string x.name, .int .i64 x.room, .string x.zone] 40))
  go_wp2_with fail
  refine (HC.out _).mono ?_
  rintro e w3 ⟨rfl, rfl⟩
  go_wp2
  go_ret
  exact ⟨rfl, below_trans BA.out b2.out BA.out.size⟩
set_option maxRecDepth 100000 in
set_option maxHeartbeats 4000000 in
theorem svBinNode_is (xs : List NodeD) (ha : Asc (·.name) xs) (k : ByteArray) (ad : Option Addr) (cap : Nat) (hl : xs.length ≤ 100) (kb : Nat) (w : World) (hk : w.cell? ⟨kb, 0, none⟩ = some (.func (.func 54) #[] #[])) (hkl : kb < w.heap.size) (hx : NodesAt w ad xs) :
    Calls Tryz.prog 166 #[.slice ad xs.length cap, .string k, .func (.func 167) #[] #[.pointer (some ⟨kb, 0, none⟩)]] w fun e w' => ∃ p : Nat, e = .returned (.tuple #[.int .i64 (p : Int), .bool (hasNode xs k)]) ∧ PosP (·.name) xs k p ∧ Below w.heap.size w w' := by
  have HX := Lib.hid hx
  have HA := Lib.hid ha
  have HK := Lib.hid hk
  clear hx ha hk
  go_enter Tryz.func166, Tryz.ntmps166
  go_wp2
  go_loopw [9, 10] (fun iv jv wr => ∃ lo hi : Nat, iv = .int .i64 (lo : Int) ∧ jv = .int .i64 (hi : Int) ∧ lo ≤ hi ∧ hi ≤ xs.length ∧ Hid ((∀ t (h : t < xs.length), t < lo → lt xs[t].name k) ∧ ∀ t (h : t < xs.length), hi ≤ t → ¬ lt xs[t].name k) ∧ Below w.heap.size w wr) (fun iv jv _ => (intOf jv - intOf iv).toNat)
  case atStart => exact ⟨0, xs.length, rfl, rfl, Nat.zero_le _, Nat.le_refl _, ⟨fun t _ h => absurd h (Nat.not_lt_zero _), fun t h h2 => by omega⟩, Below.refl _ _⟩
  case round =>
    obtain ⟨lo, hi, rfl, rfl, hlh, hhi, HI, hbr⟩ := hrel
    by_cases hlt : lo < hi
    · obtain ⟨m, hm⟩ : ∃ m : Nat, (lo + hi) / 2 = m := ⟨_, rfl⟩
      have hmz : ((lo : Int) + (hi : Int)) / 2 = (m : Int) := by omega
      have hml : m < xs.length := by omega
      obtain ⟨a, rfl, hal, k0, k1, k2⟩ := nodesAt_next HX.out hbr m hml
      obtain ⟨y, hy⟩ : ∃ y, xs[m] = y := ⟨_, rfl⟩
      rw [hy] at k0 k1 k2
      have HY := Lib.hid hy
      have hkr : wr.cell? ⟨kb, 0, none⟩ = some (.func (.func 54) #[] #[]) := by rw [hbr.cell (p := ⟨kb, 0, none⟩) hkl]; exact HK.out
      have C1 := svCmpNode_is y k kb wr hkr (Nat.lt_of_lt_of_le hkl hbr.size)
      obtain ⟨c, hc⟩ : ∃ c, Lib.compareBytes y.name.data.toList k.data.toList = c := ⟨_, rfl⟩
      rw [hc] at C1
      have C1 := Lib.hid C1
      have HB := Lib.hid hbr
      clear hy hbr hkr
      by_cases hcl : c < 0
      · have HQ := Lib.hid (show lt xs[m].name k by rw [HY.out]; exact Classical.byContradiction fun z => absurd hcl (by rw [← hc]; exact cmpB_pos z))
        clear hc HY
        go_wp2_with fail
        refine C1.out.mono ?_
        rintro e w2 ⟨rfl, b2⟩
        have B2 := Lib.hid (below_trans HB.out b2 HB.out.size)
        clear b2 k0 k1 k2 hal
        go_wp2
        go_roundw
        case rel => exact ⟨m + 1, hi, by simp, rfl, by omega, hhi, ⟨pos_up HA.out hml HQ.out, HI.out.2⟩, B2.out⟩
        case measure => simp [intOf]; omega
      · have HQ := Lib.hid (show ¬ lt xs[m].name k by rw [HY.out]; exact fun z => hcl (by rw [← hc]; exact cmpB_neg z))
        clear hc HY
        go_wp2_with fail
        refine C1.out.mono ?_
        rintro e w2 ⟨rfl, b2⟩
        have B2 := Lib.hid (below_trans HB.out b2 HB.out.size)
        clear b2 k0 k1 k2 hal
        go_wp2
        go_roundw
        case rel => exact ⟨lo, m, rfl, rfl, by omega, by omega, ⟨HI.out.1, pos_down HA.out hml HQ.out⟩, B2.out⟩
        case measure => simp [intOf]; omega
    · obtain rfl : lo = hi := by omega
      have HP : Hid (PosP (·.name) xs k lo) := ⟨hhi, HI.out⟩
      by_cases hin : lo < xs.length
      · obtain ⟨a, rfl, hal, k0, k1, k2⟩ := nodesAt_next HX.out hbr lo hin
        obtain ⟨y, hy⟩ : ∃ y, xs[lo] = y := ⟨_, rfl⟩
        rw [hy] at k0 k1 k2
        have HY := Lib.hid hy
        have hkr : wr.cell? ⟨kb, 0, none⟩ = some (.func (.func 54) #[] #[]) := by rw [hbr.cell (p := ⟨kb, 0, none⟩) hkl]; exact HK.out
        have C1 := svCmpNode_is y k kb wr hkr (Nat.lt_of_lt_of_le hkl hbr.size)
        obtain ⟨c, hc⟩ : ∃ c, Lib.compareBytes y.name.data.toList k.data.toList = c := ⟨_, rfl⟩
        rw [hc] at C1
        have C1 := Lib.hid C1
        have HB := Lib.hid hbr
        clear hy hbr hkr
        by_cases hcz : c = 0
        · have HF : Hid (hasNode xs k = true) := (hasNode_iff xs k).2 ⟨xs[lo], List.getElem_mem hin, by rw [HY.out]; exact (cmpB_zero _ _).1 (hc.trans hcz)⟩
          subst hcz
          clear hc HY
          go_wp2_with fail
          refine C1.out.mono ?_
          rintro e w2 ⟨rfl, b2⟩
          have B2 := Lib.hid (below_trans HB.out b2 HB.out.size)
          clear b2 k0 k1 k2 hal
          go_wp2
          go_ret2
          exact ⟨lo, by rw [HF.out]; first | rfl | simp, HP.out, B2.out⟩
        · have HF : Hid (hasNode xs k = false) := by
            show _ = _
            cases e : hasNode xs k with
            | false => rfl
            | true =>
              obtain ⟨z, hz, ez⟩ := (hasNode_iff xs k).1 e
              exact absurd ez (pos_none HA.out HP.out (fun hp => by rw [HY.out]; exact fun q => hcz (by rw [← hc]; exact (cmpB_zero _ _).2 q)) z hz)
          have hcb : (c == 0) = false := by simpa using hcz
          clear hc HY
          go_wp2_with fail
          refine C1.out.mono ?_
          rintro e w2 ⟨rfl, b2⟩
          have B2 := Lib.hid (below_trans HB.out b2 HB.out.size)
          clear b2 k0 k1 k2 hal
          go_wp2
          go_ret2
          exact ⟨lo, by rw [HF.out]; first | rfl | simp, HP.out, B2.out⟩
      · have HF : Hid (hasNode xs k = false) := by
          show _ = _
          cases e : hasNode xs k with
          | false => rfl
          | true =>
            obtain ⟨z, hz, ez⟩ := (hasNode_iff xs k).1 e
            exact absurd ez (pos_none HA.out HP.out (fun hp => absurd hp hin) z hz)
        have HB := Lib.hid hbr
        clear hbr
        go_wp2
        go_ret2
        exact ⟨lo, by rw [HF.out]; first | rfl | simp, HP.out, HB.out⟩
set_option maxRecDepth 100000 in
theorem svFindNode_is (xs : List NodeD) (ha : Asc (·.name) xs) (k : ByteArray) (ad : Option Addr) (cap : Nat) (hl : xs.length ≤ 100) (w : World) (hx : NodesAt w ad xs) :
    Calls Tryz.prog 137 #[.slice ad xs.length cap, .string k, .func (.func 54) #[] #[]] w fun e w' => ∃ p : Nat, e = .returned (.tuple #[.int .i64 (p : Int), .bool (hasNode xs k)]) ∧ PosP (·.name) xs k p ∧ Below w.heap.size w w' := by
  have bA := below_one w (.cells #[.func (.func 54) #[] #[]] 94)
  have oK := objAt_new w #[.func (.func 54) #[] #[]] 94
  have C1 := Lib.hid (svBinNode_is xs ha k ad cap hl w.heap.size _ (objAt_cell oK 0 rfl) (objAt_lt oK) (nodesAt_next hx bA))
  have BA := Lib.hid bA
  clear bA oK hx
  go_enter Tryz.func137, Tryz.ntmps137
  go_wp2_with fail
  refine C1.out.mono ?_
  rintro e w2 ⟨p, rfl, hp, b2⟩
  have HP := Lib.hid hp
  have B2 := Lib.hid (below_trans BA.out b2 BA.out.size)
  clear b2 hp
  go_wp2
  go_ret2
  exact ⟨p, rfl, HP.out, B2.out⟩

/-! ### Lease -/
set_option maxRecDepth 100000 in
theorem svCmpLease_is (x : LeaseD) (k : ByteArray) (kb : Nat) (w : World) (hk : w.cell? ⟨kb, 0, none⟩ = some (.func (.func 58) #[] #[])) (hkl : kb < w.heap.size) :
    Calls Tryz.prog 172 #[.agg #[.string x.job, .string x.node, .int .i64 x.til], .string k, .pointer (some ⟨kb, 0, none⟩)] w fun e w' => e = .returned (.int .i64 (Lib.compareBytes x.job.data.toList k.data.toList)) ∧ Below w.heap.size w w' := by
  have HC := Lib.hid (fun W => Any.strings_Compare Tryz.layCompare x.job k W)
  have bA := below_one w (.cells #[.string x.job, .string x.node, .int .i64 x.til] 42)
  have oX := objAt_new w #[.string x.job, .string x.node, .int .i64 x.til] 42
  have hk2 : (w.alloc (.cells #[.string x.job, .string x.node, .int .i64 x.til] 42)).cell? ⟨kb, 0, none⟩ = some (.func (.func 58) #[] #[]) := by rw [bA.cell (p := ⟨kb, 0, none⟩) hkl]; exact hk
  obtain ⟨W, hW⟩ : ∃ W, w.alloc (.cells #[.string x.job, .string x.node, .int .i64 x.til] 42) = W := ⟨_, rfl⟩
  rw [hW] at bA oX hk2
  have x0 := objAt_cell oX 0 rfl
  have x1 := objAt_cell oX 1 rfl
  have x2 := objAt_cell oX 2 rfl
  have BA := Lib.hid bA
  clear bA oX hk
  go_enter Tryz.func172, Tryz.ntmps172
  go_wp2_with fail
  refine (leaseKey_eq x _).mono ?_
  rintro e w2 ⟨rfl, rfl⟩
  have b2 := Lib.hid (below_one W (.cells #[.string x.job, .string x.node, .int .i64 x.til] 42))
  go_wp2_with fail
  refine (HC.out _).mono ?_
  rintro e w3 ⟨rfl, rfl⟩
  go_wp2
  go_ret
  exact ⟨rfl, below_trans BA.out b2.out BA.out.size⟩
set_option maxRecDepth 100000 in
set_option maxHeartbeats 4000000 in
theorem svBinLease_is (xs : List LeaseD) (ha : Asc (·.job) xs) (k : ByteArray) (ad : Option Addr) (cap : Nat) (hl : xs.length ≤ 100) (kb : Nat) (w : World) (hk : w.cell? ⟨kb, 0, none⟩ = some (.func (.func 58) #[] #[])) (hkl : kb < w.heap.size) (hx : LeasesAt w ad xs) :
    Calls Tryz.prog 171 #[.slice ad xs.length cap, .string k, .func (.func 172) #[] #[.pointer (some ⟨kb, 0, none⟩)]] w fun e w' => ∃ p : Nat, e = .returned (.tuple #[.int .i64 (p : Int), .bool (hasLease xs k)]) ∧ PosP (·.job) xs k p ∧ Below w.heap.size w w' := by
  have HX := Lib.hid hx
  have HA := Lib.hid ha
  have HK := Lib.hid hk
  clear hx ha hk
  go_enter Tryz.func171, Tryz.ntmps171
  go_wp2
  go_loopw [9, 10] (fun iv jv wr => ∃ lo hi : Nat, iv = .int .i64 (lo : Int) ∧ jv = .int .i64 (hi : Int) ∧ lo ≤ hi ∧ hi ≤ xs.length ∧ Hid ((∀ t (h : t < xs.length), t < lo → lt xs[t].job k) ∧ ∀ t (h : t < xs.length), hi ≤ t → ¬ lt xs[t].job k) ∧ Below w.heap.size w wr) (fun iv jv _ => (intOf jv - intOf iv).toNat)
  case atStart => exact ⟨0, xs.length, rfl, rfl, Nat.zero_le _, Nat.le_refl _, ⟨fun t _ h => absurd h (Nat.not_lt_zero _), fun t h h2 => by omega⟩, Below.refl _ _⟩
  case round =>
    obtain ⟨lo, hi, rfl, rfl, hlh, hhi, HI, hbr⟩ := hrel
    by_cases hlt : lo < hi
    · obtain ⟨m, hm⟩ : ∃ m : Nat, (lo + hi) / 2 = m := ⟨_, rfl⟩
      have hmz : ((lo : Int) + (hi : Int)) / 2 = (m : Int) := by omega
      have hml : m < xs.length := by omega
      obtain ⟨a, rfl, hal, k0, k1, k2⟩ := leasesAt_next HX.out hbr m hml
      obtain ⟨y, hy⟩ : ∃ y, xs[m] = y := ⟨_, rfl⟩
      rw [hy] at k0 k1 k2
      have HY := Lib.hid hy
      have hkr : wr.cell? ⟨kb, 0, none⟩ = some (.func (.func 58) #[] #[]) := by rw [hbr.cell (p := ⟨kb, 0, none⟩) hkl]; exact HK.out
      have C1 := svCmpLease_is y k kb wr hkr (Nat.lt_of_lt_of_le hkl hbr.size)
      obtain ⟨c, hc⟩ : ∃ c, Lib.compareBytes y.job.data.toList k.data.toList = c := ⟨_, rfl⟩
      rw [hc] at C1
      have C1 := Lib.hid C1
      have HB := Lib.hid hbr
      clear hy hbr hkr
      by_cases hcl : c < 0
      · have HQ := Lib.hid (show lt xs[m].job k by rw [HY.out]; exact Classical.byContradiction fun z => absurd hcl (by rw [← hc]; exact cmpB_pos z))
        clear hc HY
        go_wp2_with fail
        refine C1.out.mono ?_
        rintro e w2 ⟨rfl, b2⟩
        have B2 := Lib.hid (below_trans HB.out b2 HB.out.size)
        clear b2 k0 k1 k2 hal
        go_wp2
        go_roundw
        case rel => exact ⟨m + 1, hi, by simp, rfl, by omega, hhi, ⟨pos_up HA.out hml HQ.out, HI.out.2⟩, B2.out⟩
        case measure => simp [intOf]; omega
      · have HQ := Lib.hid (show ¬ lt xs[m].job k by rw [HY.out]; exact fun z => hcl (by rw [← hc]; exact cmpB_neg z))
        clear hc HY
        go_wp2_with fail
        refine C1.out.mono ?_
        rintro e w2 ⟨rfl, b2⟩
        have B2 := Lib.hid (below_trans HB.out b2 HB.out.size)
        clear b2 k0 k1 k2 hal
        go_wp2
        go_roundw
        case rel => exact ⟨lo, m, rfl, rfl, by omega, by omega, ⟨HI.out.1, pos_down HA.out hml HQ.out⟩, B2.out⟩
        case measure => simp [intOf]; omega
    · obtain rfl : lo = hi := by omega
      have HP : Hid (PosP (·.job) xs k lo) := ⟨hhi, HI.out⟩
      by_cases hin : lo < xs.length
      · obtain ⟨a, rfl, hal, k0, k1, k2⟩ := leasesAt_next HX.out hbr lo hin
        obtain ⟨y, hy⟩ : ∃ y, xs[lo] = y := ⟨_, rfl⟩
        rw [hy] at k0 k1 k2
        have HY := Lib.hid hy
        have hkr : wr.cell? ⟨kb, 0, none⟩ = some (.func (.func 58) #[] #[]) := by rw [hbr.cell (p := ⟨kb, 0, none⟩) hkl]; exact HK.out
        have C1 := svCmpLease_is y k kb wr hkr (Nat.lt_of_lt_of_le hkl hbr.size)
        obtain ⟨c, hc⟩ : ∃ c, Lib.compareBytes y.job.data.toList k.data.toList = c := ⟨_, rfl⟩
        rw [hc] at C1
        have C1 := Lib.hid C1
        have HB := Lib.hid hbr
        clear hy hbr hkr
        by_cases hcz : c = 0
        · have HF : Hid (hasLease xs k = true) := (hasLease_iff xs k).2 ⟨xs[lo], List.getElem_mem hin, by rw [HY.out]; exact (cmpB_zero _ _).1 (hc.trans hcz)⟩
          subst hcz
          clear hc HY
          go_wp2_with fail
          refine C1.out.mono ?_
          rintro e w2 ⟨rfl, b2⟩
          have B2 := Lib.hid (below_trans HB.out b2 HB.out.size)
          clear b2 k0 k1 k2 hal
          go_wp2
          go_ret2
          exact ⟨lo, by rw [HF.out]; first | rfl | simp, HP.out, B2.out⟩
        · have HF : Hid (hasLease xs k = false) := by
            show _ = _
            cases e : hasLease xs k with
            | false => rfl
            | true =>
              obtain ⟨z, hz, ez⟩ := (hasLease_iff xs k).1 e
              exact absurd ez (pos_none HA.out HP.out (fun hp => by rw [HY.out]; exact fun q => hcz (by rw [← hc]; exact (cmpB_zero _ _).2 q)) z hz)
          have hcb : (c == 0) = false := by simpa using hcz
          clear hc HY
          go_wp2_with fail
          refine C1.out.mono ?_
          rintro e w2 ⟨rfl, b2⟩
          have B2 := Lib.hid (below_trans HB.out b2 HB.out.size)
          clear b2 k0 k1 k2 hal
          go_wp2
          go_ret2
          exact ⟨lo, by rw [HF.out]; first | rfl | simp, HP.out, B2.out⟩
      · have HF : Hid (hasLease xs k = false) := by
          show _ = _
          cases e : hasLease xs k with
          | false => rfl
          | true =>
            obtain ⟨z, hz, ez⟩ := (hasLease_iff xs k).1 e
            exact absurd ez (pos_none HA.out HP.out (fun hp => absurd hp hin) z hz)
        have HB := Lib.hid hbr
        clear hbr
        go_wp2
        go_ret2
        exact ⟨lo, by rw [HF.out]; first | rfl | simp, HP.out, HB.out⟩
set_option maxRecDepth 100000 in
theorem svFindLease_is (xs : List LeaseD) (ha : Asc (·.job) xs) (k : ByteArray) (ad : Option Addr) (cap : Nat) (hl : xs.length ≤ 100) (w : World) (hx : LeasesAt w ad xs) :
    Calls Tryz.prog 142 #[.slice ad xs.length cap, .string k, .func (.func 58) #[] #[]] w fun e w' => ∃ p : Nat, e = .returned (.tuple #[.int .i64 (p : Int), .bool (hasLease xs k)]) ∧ PosP (·.job) xs k p ∧ Below w.heap.size w w' := by
  have bA := below_one w (.cells #[.func (.func 58) #[] #[]] 102)
  have oK := objAt_new w #[.func (.func 58) #[] #[]] 102
  have C1 := Lib.hid (svBinLease_is xs ha k ad cap hl w.heap.size _ (objAt_cell oK 0 rfl) (objAt_lt oK) (leasesAt_next hx bA))
  have BA := Lib.hid bA
  clear bA oK hx
  go_enter Tryz.func142, Tryz.ntmps142
  go_wp2_with fail
  refine C1.out.mono ?_
  rintro e w2 ⟨p, rfl, hp, b2⟩
  have HP := Lib.hid hp
  have B2 := Lib.hid (below_trans BA.out b2 BA.out.size)
  clear b2 hp
  go_wp2
  go_ret2
  exact ⟨p, rfl, HP.out, B2.out⟩
end Go.Proofs.YthpgkfonbmffdaaGreatDoor
