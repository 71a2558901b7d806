/- slices.Clone, slices.IndexFunc and slices.DeleteFunc on leases, at any predicate. -/
import Derived.Test.YthpgkfonbmffdaaGreatDoorSvCat
import Derived.Test.YthpgkfonbmffdaaGreatDoorSvMem
import Derived.Test.YthpgkfonbmffdaaGreatDoorPkSt2
import Derived.Lib.SliceRun
namespace Go.Proofs.YthpgkfonbmffdaaGreatDoor
open Go.RowKit Go.Lib

/-- How far DeleteFunc has come: i rows kept of j, the row being d. -/
def KInv {α : Type} (p : α → Bool) (xs : List α) (i j : Nat) (d : List α) : Prop := d.length = xs.length ∧ i < j ∧ j ≤ xs.length ∧ d.take i = (xs.take j).filter (fun x => !p x) ∧ d.drop j = xs.drop j
section
variable {α : Type} {p : α → Bool} {xs d : List α}
theorem kinv_start {k : Nat} (hk : k < xs.length) (h1 : p xs[k] = true) (h2 : ∀ t (ht : t < xs.length), t < k → p xs[t] = false) : KInv p xs k (k + 1) xs := by
  refine ⟨rfl, by omega, by omega, ?_, rfl⟩
  rw [List.take_succ_eq_append_getElem hk, List.filter_append]
  have h3 : (xs.take k).filter (fun x => !p x) = xs.take k := by
    rw [List.filter_eq_self]
    intro z hz
    obtain ⟨t, ht, rfl⟩ := List.mem_take_iff_getElem.1 hz
    rw [h2 t (by omega) (by omega)]; rfl
  rw [h3]; simp [h1]
theorem kinv_at {i j : Nat} (h : KInv p xs i j d) (hj : j < xs.length) : ∃ hd : j < d.length, d[j] = xs[j] := by
  have hd : j < d.length := by rw [h.1]; exact hj
  refine ⟨hd, ?_⟩
  have e := h.2.2.2.2
  rw [List.drop_eq_getElem_cons hd, List.drop_eq_getElem_cons hj] at e
  exact (List.cons.inj e).1
theorem kinv_skip {i j : Nat} (h : KInv p xs i j d) (hj : j < xs.length) (hp : p xs[j] = true) : KInv p xs i (j + 1) d := by
  obtain ⟨h1, h2, h3, h4, h5⟩ := h
  refine ⟨h1, by omega, by omega, ?_, ?_⟩
  · rw [h4, List.take_succ_eq_append_getElem hj, List.filter_append]; simp [hp]
  · have e := congrArg (List.drop 1) h5
    rwa [List.drop_drop, List.drop_drop] at e
theorem kinv_keep {i j : Nat} (h : KInv p xs i j d) (hj : j < xs.length) (hp : p xs[j] = false) : KInv p xs (i + 1) (j + 1) (d.set i xs[j]) := by
  obtain ⟨h1, h2, h3, h4, h5⟩ := h
  have hi : i < d.length := by omega
  refine ⟨by rw [List.length_set]; exact h1, by omega, by omega, ?_, ?_⟩
  · rw [List.take_succ_eq_append_getElem hj, List.filter_append, ← h4, List.take_succ_eq_append_getElem (by rw [List.length_set]; exact hi), List.getElem_set_self, List.take_set_of_le (Nat.le_refl i)]
    simp [hp]
  · rw [List.drop_set_of_lt (by omega)]
    have e := congrArg (List.drop 1) h5
    rwa [List.drop_drop, List.drop_drop] at e
theorem kinv_end {i : Nat} (h : KInv p xs i xs.length d) : d.take i = xs.filter (fun x => !p x) ∧ i = (xs.filter (fun x => !p x)).length ∧ i ≤ d.length := by
  obtain ⟨h1, h2, h3, h4, h5⟩ := h
  rw [List.take_length] at h4
  refine ⟨h4, ?_, by omega⟩
  rw [← h4, List.length_take]; omega
theorem filter_all (h : ∀ z ∈ xs, p z = false) : xs.filter (fun x => !p x) = xs := by
  rw [List.filter_eq_self]
  intro z hz
  rw [h z hz]; rfl
end
/-- A row of leases in a block of its own. -/
def LRow (g cap : Nat) (d : List LeaseD) (w : World) : Prop := ∃ (cur : Array Value) (rest : List Value), ObjAt g cur 42 w ∧ cur.toList = cLeases d ++ rest ∧ d.length ≤ cap ∧ cap ≤ maxLen ∧ cur.size = cap * 3
theorem lrow_of {w : World} {B n : Nat} {ad : Option Addr} {cap : Nat} {xs : List LeaseD} (h : w.ownsRow B 42 3 (.slice ad n cap) n (cLeases xs)) (hn : n = xs.length) : (ad = none ∧ cap = 0 ∧ xs = []) ∨ ∃ g, ad = some ⟨g, 0, none⟩ ∧ B ≤ g ∧ LRow g cap xs w := by
  rcases h.2 with ⟨h0, h1⟩ | ⟨g, c, cur, hv, hB, hg, hc, hm, hs, ht⟩
  · simp only [Value.slice.injEq] at h0
    refine .inl ⟨h0.1, h0.2.2, ?_⟩
    rw [hn] at h1
    exact List.length_eq_zero_iff.1 h1
  · simp only [Value.slice.injEq] at hv
    obtain ⟨rfl, _, rfl⟩ := hv
    refine .inr ⟨g, rfl, hB, cur, cur.toList.drop (n * 3), hg, ?_, by omega, hm, hs⟩
    rw [← ht, List.take_append_drop]
theorem lrow_own {w : World} {B g cap i : Nat} {d : List LeaseD} (h : LRow g cap d w) (hB : B ≤ g) (hi : i ≤ d.length) : w.ownsRow B 42 3 (.slice (some ⟨g, 0, none⟩) i cap) i (cLeases (d.take i)) := by
  obtain ⟨cur, rest, ho, ht, hl, hm, hs⟩ := h
  refine ⟨by rw [cLeases_length, List.length_take, Nat.min_eq_left hi], .inr ⟨g, cap, cur, rfl, hB, ho, by omega, hm, hs, ?_⟩⟩
  have e : cLeases d = cLeases (d.take i) ++ cLeases (d.drop i) := by rw [← cLeases_append, List.take_append_drop]
  rw [ht, e, List.append_assoc, List.take_left' (by rw [cLeases_length, List.length_take, Nat.min_eq_left hi])]
theorem lrow_cells {w : World} {g cap i : Nat} {d : List LeaseD} (h : LRow g cap d w) (hi : i < d.length) : w.cell? ⟨g, i * 3, none⟩ = some (.string d[i].job) ∧ w.cell? ⟨g, i * 3 + 1, none⟩ = some (.string d[i].node) ∧ w.cell? ⟨g, i * 3 + 2, none⟩ = some (.int .i64 d[i].til) := by
  have hx := ownLeases (lrow_own (B := 0) h (Nat.zero_le _) (Nat.le_refl d.length)) (by rw [List.take_length])
  rw [List.take_length] at hx
  obtain ⟨a, ha, _, h0, h1, h2⟩ := hx i hi
  simp only [Option.some.injEq] at ha
  subst ha
  rw [addr_add] at h0 h1 h2
  exact ⟨h0, h1, h2⟩
theorem lrow_free {w : World} {g cap : Nat} {d : List LeaseD} (h : LRow g cap d w) (j : Nat) : w.frozen? ⟨g, j, none⟩ = false := by
  obtain ⟨cur, rest, ho, _⟩ := h
  exact objAt_free ho j
theorem lrow_lt {w : World} {g cap : Nat} {d : List LeaseD} (h : LRow g cap d w) : g < w.heap.size := by
  obtain ⟨cur, rest, ho, _⟩ := h
  exact objAt_lt ho
theorem lrow_next {w w' : World} {g cap : Nat} {d : List LeaseD} (h : LRow g cap d w) (hb : Below w.heap.size w w') : LRow g cap d w' := by
  obtain ⟨cur, rest, ho, r⟩ := h
  exact ⟨cur, rest, objAt_next ho hb, r⟩
theorem cLeases_set : ∀ (d : List LeaseD) (rest : List Value) (i : Nat) (x : LeaseD), i < d.length → (((cLeases d ++ rest).set (i * 3) (.string x.job)).set (i * 3 + 1) (.string x.node)).set (i * 3 + 2) (.int .i64 x.til) = cLeases (d.set i x) ++ rest
  | [], _, _, _, h => by simp at h
  | y :: d, rest, 0, x, _ => by simp [cLeases, cLease]
  | y :: d, rest, i + 1, x, h => by
    have ih := cLeases_set d rest i x (by simpa using h)
    have e : ∀ z : List LeaseD, ∀ y : LeaseD, cLeases (y :: z) = Value.string y.job :: Value.string y.node :: Value.int .i64 y.til :: cLeases z := fun z y => by simp [cLeases, cLease]
    rw [List.set_cons_succ, e, e, show (i + 1) * 3 = i * 3 + 1 + 1 + 1 by omega, show i * 3 + 1 + 1 + 1 + 1 = (i * 3 + 1) + 1 + 1 + 1 by omega, show i * 3 + 1 + 1 + 1 + 2 = (i * 3 + 2) + 1 + 1 + 1 by omega]
    simp only [List.cons_append, List.set_cons_succ]
    rw [ih]
theorem lrow_set {w : World} {g cap i : Nat} {d : List LeaseD} (h : LRow g cap d w) (hi : i < d.length) (x : LeaseD) : LRow g cap (d.set i x) (((w.setCell ⟨g, i * 3, none⟩ (.string x.job)).setCell ⟨g, i * 3 + 1, none⟩ (.string x.node)).setCell ⟨g, i * 3 + 2, none⟩ (.int .i64 x.til)) := by
  obtain ⟨cur, rest, ho, ht, hl, hm, hs⟩ := h
  refine ⟨_, rest, objAt_set (objAt_set (objAt_set ho _ _) _ _) _ _, ?_, by rw [List.length_set]; exact hl, hm, by simp [hs]⟩
  rw [Array.toList_setIfInBounds, Array.toList_setIfInBounds, Array.toList_setIfInBounds, ht, cLeases_set d rest i x hi]
theorem setCells_obj {g : Nat} {t : TypeId} : ∀ (us : List Value) {w : World} {cur : Array Value} (off : Nat), ObjAt g cur t w → ∃ cur', ObjAt g cur' t (w.setCells g off us) ∧ cur'.size = cur.size ∧ cur'.toList.take off = cur.toList.take off
  | [], w, cur, off, h => ⟨cur, h, rfl, rfl⟩
  | u :: us, w, cur, off, h => by
    obtain ⟨cur', h1, h2, h3⟩ := setCells_obj us (off + 1) (objAt_set h off u)
    refine ⟨cur', h1, by rw [h2]; simp, ?_⟩
    have e := congrArg (List.take off) h3
    rw [List.take_take, List.take_take, Nat.min_eq_left (Nat.le_succ off), Array.toList_setIfInBounds] at e
    rw [e, List.take_set_of_le (Nat.le_refl off)]
theorem setCells_gN (g : Nat) : ∀ (us : List Value) (w : World) (off : Nat), w.grownBy (w.setCells g off us) (some g)
  | [], w, _ => gN_refl g w
  | u :: us, w, off => by
    have h1 := gN_set (gN_refl g w) off u
    have h2 := setCells_gN g us (w.setCell ⟨g, off, none⟩ u) (off + 1)
    exact ⟨h2.os.trans h1.os, h2.tape.trans h1.tape, h2.output.trans h1.output, Nat.le_trans h1.size h2.size, fun k hk hn => (h2.block k (Nat.lt_of_lt_of_le hk h1.size) hn).trans (h1.block k hk hn)⟩
theorem lrow_clear {w : World} {g cap i : Nat} {d : List LeaseD} (h : LRow g cap d w) (hi : i ≤ d.length) (us : List Value) : LRow g cap (d.take i) (w.setCells g (i * 3) us) := by
  obtain ⟨cur, rest, ho, ht, hl, hm, hs⟩ := h
  obtain ⟨cur', h1, h2, h3⟩ := setCells_obj us (i * 3) ho
  refine ⟨cur', cur'.toList.drop (i * 3), h1, ?_, by rw [List.length_take]; omega, hm, by rw [h2]; exact hs⟩
  have e : cLeases d = cLeases (d.take i) ++ cLeases (d.drop i) := by rw [← cLeases_append, List.take_append_drop]
  have e2 : cur.toList.take (i * 3) = cLeases (d.take i) := by rw [ht, e, List.append_assoc, List.take_left' (by rw [cLeases_length, List.length_take, Nat.min_eq_left hi])]
  rw [← e2, ← h3, List.take_append_drop]
/-- 'clear(s)' at elements of several cells. -/
theorem run_clear_k {P : Program} (w : World) (t e ty : TypeId) (z : Value) (ht : P.underlying t = some (.slice e)) (hv : ∀ w, (zeroValue e).run P w = .ok z w) (b o n c : Nat) (hn : 0 < n) (us : List Value) (hus : (Builtin.zeroCells z.cells n).toList = us) (h1 : ∀ v ∈ us, v.oneCell' = true)
    (hc : ∀ j, j < us.length → (w.cell? ⟨b, o + j, none⟩).isSome = true) (hf : ∀ j, j < us.length → w.frozen? ⟨b, o + j, none⟩ = false) :
    (Builtin.clear_ #[t] ty #[.slice (some ⟨b, o, none⟩) n c]).run P w = .ok (.tuple #[]) (w.setCells b o us) := by
  have hst := run_storeCells_cells (P := P) b o us 0 w (by simpa using hc) (by simpa using hf) h1
  simp only [Nat.add_zero] at hst
  obtain ⟨m, rfl⟩ : ∃ m, n = m + 1 := ⟨n - 1, by omega⟩
  simp [Builtin.clear_, run_underlying ht, hv, hus, hst]
theorem lrow_some {w : World} {g cap : Nat} {d : List LeaseD} (h : LRow g cap d w) {j : Nat} (hj : j < cap * 3) : (w.cell? ⟨g, j, none⟩).isSome = true := by
  obtain ⟨cur, rest, ho, ht, hl, hm, hs⟩ := h
  rw [objAt_cell ho j (Array.getElem?_eq_getElem (by rw [hs]; exact hj))]; rfl
theorem zeros_len (n : Nat) : (Builtin.zeroCells (Value.agg #[.string ⟨#[]⟩, .string ⟨#[]⟩, .int .i64 0]).cells n).toList.length = n * 3 := by rw [Array.length_toList, size_zeroCells]; rfl
theorem zeros_one (n : Nat) : ∀ v ∈ (Builtin.zeroCells (Value.agg #[.string ⟨#[]⟩, .string ⟨#[]⟩, .int .i64 0]).cells n).toList, v.oneCell' = true := by
  intro v hv
  simp only [Builtin.zeroCells, Value.cells] at hv
  simp at hv
  obtain ⟨i, _, rfl⟩ := hv
  have : i % 3 = 0 ∨ i % 3 = 1 ∨ i % 3 = 2 := by omega
  rcases this with h | h | h <;> simp [h] <;> rfl
section
variable (fn : Nat) (lb : Array Value) (eg : ∀ args w, (callFunc fn args).run Tryz.prog w = .ok (.enter fn args) w) (p : LeaseD → Bool) (T : World → Prop) (N : Nat) (hTn : ∀ w w', T w → Below w.heap.size w w' → T w') (hTs : ∀ w b j u, N ≤ b → T w → T (w.setCell ⟨b, j, none⟩ u))
  (HP : ∀ (x : LeaseD) (w : World), T w → Calls Tryz.prog fn (#[.agg #[.string x.job, .string x.node, .int .i64 x.til]] ++ lb) w fun e w' => e = .returned (.bool (p x)) ∧ Below w.heap.size w w')
include eg hTn HP
set_option maxRecDepth 100000 in
set_option maxHeartbeats 4000000 in
theorem svIndex_is (xs : List LeaseD) (ad : Option Addr) (cap : Nat) (hl : xs.length ≤ 1000) (w : World) (hT : T w) (hx : LeasesAt w ad xs) :
    Calls Tryz.prog 182 #[.slice ad xs.length cap, .func (.func fn) #[] lb] w fun e w' => ∃ r : Int, e = .returned (.int .i64 r) ∧ ((r = -1 ∧ ∀ z ∈ xs, p z = false) ∨ ∃ k : Nat, ∃ hk : k < xs.length, r = (k : Int) ∧ p xs[k] = true ∧ ∀ t (ht : t < xs.length), t < k → p xs[t] = false) ∧ Below w.heap.size w w' := by
  have HX := Lib.hid hx
  have HT := Lib.hid hT
  have HTn := Lib.hid hTn
  have HPP := Lib.hid HP
  clear hx hT hTn HP
  go_enter Tryz.func182, Tryz.ntmps182
  go_wp2
  go_loopw [8] (fun iv wr => ∃ i : Nat, iv = .int .i64 (i : Int) ∧ i ≤ xs.length ∧ Hid (∀ t (ht : t < xs.length), t < i → p xs[t] = false) ∧ Hid (T wr) ∧ Below w.heap.size w wr) (fun iv _ => xs.length - (intOf iv).toNat)
  case atStart => exact ⟨0, rfl, Nat.zero_le _, fun t _ h => absurd h (Nat.not_lt_zero _), HT, Below.refl _ _⟩
  case round =>
    obtain ⟨i, rfl, hi, HI, HTr, hbr⟩ := hrel
    by_cases h : (i : Int) < (xs.length : Int)
    case pos =>
      have hil : i < xs.length := by omega
      obtain ⟨a, rfl, hal, k0, k1, k2⟩ := leasesAt_next HX.out hbr i hil
      obtain ⟨x, hxi⟩ : ∃ x, xs[i] = x := ⟨_, rfl⟩
      rw [hxi] at k0 k1 k2
      have HXI := Lib.hid hxi
      have C1 := HPP.out x wr HTr.out
      obtain ⟨c, hc⟩ : ∃ c, p x = c := ⟨_, rfl⟩
      rw [hc] at C1
      have C1 := Lib.hid C1
      have HC : Hid (p xs[i] = c) := by show _ = _; rw [hxi, hc]
      have HB := Lib.hid hbr
      clear hxi hc hbr
      go_wp2_with fail
      refine C1.out.mono ?_
      rintro e w2 ⟨rfl, b2⟩
      have B2 := Lib.hid (below_trans HB.out b2 HB.out.size)
      have T2 := Lib.hid (HTn.out _ _ HTr.out b2)
      clear b2 C1 k0 k1 k2 hal
      cases c with
      | true =>
        go_wp2
        go_ret
        exact ⟨(i : Int), rfl, .inr ⟨i, hil, rfl, HC.out, HI.out⟩, B2.out⟩
      | false =>
        go_wp2
        go_roundw
        case rel =>
          refine ⟨i + 1, by simp, by omega, fun t ht h2 => ?_, T2, B2.out⟩
          by_cases e : t = i
          · subst e; exact HC.out
          · exact HI.out t ht (by omega)
        case measure => simp [intOf]; omega
    case neg =>
      obtain rfl : i = xs.length := by omega
      have Q := Lib.hid hbr
      clear hbr h hi
      go_wp2
      go_ret
      refine ⟨-1, rfl, .inl ⟨rfl, fun z hz => ?_⟩, Q.out⟩
      obtain ⟨t, ht, rfl⟩ := List.getElem_of_mem hz
      exact HI.out t ht ht
include hTs
set_option maxRecDepth 100000 in
set_option maxHeartbeats 4000000 in
theorem svDelete_is (xs : List LeaseD) (ad : Option Addr) (cap : Nat) (hl : xs.length ≤ 1000) (w : World) (hT : T w) (hN : N ≤ w.heap.size) (hx : w.ownsRow N 42 3 (.slice ad xs.length cap) xs.length (cLeases xs)) :
    Calls Tryz.prog 169 #[.slice ad xs.length cap, .func (.func fn) #[] lb] w fun e w' => ∃ ad' cap', e = .returned (.slice ad' (xs.filter fun x => !p x).length cap') ∧ w'.ownsRow N 42 3 (.slice ad' (xs.filter fun x => !p x).length cap') (xs.filter fun x => !p x).length (cLeases (xs.filter fun x => !p x)) ∧ Below N w w' := by
  have C0 := Lib.hid (svIndex_is fn lb eg p T hTn HP xs ad cap hl w hT (ownLeases hx rfl))
  have HX := Lib.hid hx
  have HT := Lib.hid hT
  have HTn := Lib.hid hTn
  have HTs := Lib.hid hTs
  have HPP := Lib.hid HP
  clear hx hT hTn hTs HP
  go_enter Tryz.func169, Tryz.ntmps169
  go_wp2_with fail
  refine C0.out.mono ?_
  rintro e w1 ⟨r, rfl, hr, b1⟩
  have T1 := Lib.hid (HTn.out _ _ HT.out b1)
  have O1 := Lib.hid (own_next HX.out b1)
  have B1 := Lib.hid (b1.mono hN)
  clear b1 C0
  rcases hr with ⟨rfl, hall⟩ | ⟨k, hk, rfl, hpk, hbf⟩
  · have HE := Lib.hid (filter_all hall)
    clear hall
    go_wp2
    go_ret
    exact ⟨ad, cap, by rw [HE.out]; rfl, by rw [HE.out]; exact O1.out, B1.out⟩
  · have KI := kinv_start hk hpk hbf
    rcases lrow_of O1.out rfl with ⟨_, _, e0⟩ | ⟨g, rfl, hg, hL⟩
    · rw [e0] at hk; simp at hk
    have HK := Lib.hid KI
    have HL := Lib.hid hL
    have hk1 : ((k : Int) == -1) = false := beq_eq_false_iff_ne.2 (by omega)
    clear hpk hbf KI hL
    go_wp2
    go_loopw [5, 6, 7] (fun iv jv _ wr => ∃ (i j : Nat) (d : List LeaseD), iv = .int .i64 (i : Int) ∧ jv = .int .i64 (j : Int) ∧ i < j ∧ j ≤ xs.length ∧ Hid (KInv p xs i j d) ∧ Hid (T wr) ∧ LRow g cap d wr ∧ Below N w wr) (fun _ jv _ _ => xs.length - (intOf jv).toNat)
    case atStart => exact ⟨k, k + 1, xs, rfl, by simp, by omega, by omega, HK, T1, HL.out, B1.out⟩
    case round =>
      obtain ⟨i, j, d, rfl, rfl, hij, hj, HKI, HTr, hL, hbr⟩ := hrel
      have hd := HKI.out.1
      by_cases h : (j : Int) < (xs.length : Int)
      case pos =>
        have hil : j < xs.length := by omega
        obtain ⟨hjd, hje⟩ := kinv_at HKI.out hil
        obtain ⟨k0, k1, k2⟩ := lrow_cells hL hjd
        rw [hje] at k0 k1 k2
        obtain ⟨x, hxi⟩ : ∃ x, xs[j] = x := ⟨_, rfl⟩
        rw [hxi] at k0 k1 k2
        have HXI := Lib.hid hxi
        obtain ⟨V, hV⟩ : ∃ V, wr.alloc (.cells #[.string x.job, .string x.node, .int .i64 x.til] 42) = V := ⟨_, rfl⟩
        have bA := below_one wr (.cells #[.string x.job, .string x.node, .int .i64 x.til] 42)
        have oX := objAt_new wr #[.string x.job, .string x.node, .int .i64 x.til] 42
        obtain ⟨LX, hLX⟩ : ∃ L, wr.heap.size = L := ⟨_, rfl⟩
        rw [hV] at bA oX
        rw [hLX] at oX
        have e0 := objAt_cell oX 0 rfl
        have e1 := objAt_cell oX 1 rfl
        have e2 := objAt_cell oX 2 rfl
        have el := objAt_lt oX
        have hgl := lrow_lt hL
        have hg2 : g < LX := by omega
        have TV := HTn.out _ _ HTr.out bA
        have C1 := HPP.out x V TV
        have hNw : N ≤ wr.heap.size := Nat.le_trans hN hbr.size
        have PV := Lib.hid (And.intro (lrow_next hL bA) (And.intro (below_trans hbr bA hNw) (And.intro TV oX)))
        clear oX bA hxi TV hL hbr
        cases hc : p x with
        | true =>
          rw [hc] at C1
          have C1 := Lib.hid C1
          have HK2 := Lib.hid (kinv_skip HKI.out hil (by rw [HXI.out]; exact hc))
          clear hc
          go_wp2_with fail
          refine C1.out.mono ?_
          rintro e w2 ⟨rfl, b2⟩
          obtain ⟨hLV, BV, TV, oX⟩ := PV.out
          have Q := Lib.hid (And.intro (lrow_next hLV b2) (And.intro (below_trans BV b2 (Nat.le_trans hNw (by omega))) (HTn.out _ _ TV b2)))
          clear hLV BV TV oX b2 C1 e0 e1 e2 k0 k1 k2 PV
          go_wp2
          go_roundw
          case rel =>
            obtain ⟨q1, q2, q3⟩ := Q.out
            exact ⟨i, j + 1, d, rfl, by simp, by omega, by omega, HK2, q3, q1, q2⟩
          case measure => simp [intOf]; omega
        | false =>
          rw [hc] at C1
          have C1 := Lib.hid C1
          have HK2 := Lib.hid (kinv_keep HKI.out hil (by rw [HXI.out]; exact hc))
          rw [HXI.out] at HK2
          clear hc
          go_wp2_with fail
          refine C1.out.mono ?_
          rintro e w2 ⟨rfl, b2⟩
          obtain ⟨hLV, BV, TV, oX⟩ := PV.out
          have hL2 := lrow_next hLV b2
          have oX2 := objAt_next oX b2
          have hid : i < d.length := by omega
          obtain ⟨r0, r1, r2⟩ := lrow_cells hL2 hid
          have f0 := lrow_free hL2 (i * 3)
          have f1 := lrow_free hL2 (i * 3 + 1)
          have f2 := lrow_free hL2 (i * 3 + 2)
          have hL3 := lrow_set hL2 hid x
          have B2 := below_trans BV b2 (Nat.le_trans hNw (by omega))
          have B3 := ((B2.setCell (p := ⟨g, i * 3, none⟩) hg (.string x.job)).setCell (p := ⟨g, i * 3 + 1, none⟩) hg (.string x.node)).setCell (p := ⟨g, i * 3 + 2, none⟩) hg (.int .i64 x.til)
          have T3 := HTs.out _ g (i * 3 + 2) (.int .i64 x.til) hg (HTs.out _ g (i * 3 + 1) (.string x.node) hg (HTs.out _ g (i * 3) (.string x.job) hg (HTn.out _ _ TV b2)))
          have Q := Lib.hid (And.intro hL3 (And.intro B3 T3))
          have e0 := objAt_cell oX2 0 rfl
          have e1 := objAt_cell oX2 1 rfl
          have e2 := objAt_cell oX2 2 rfl
          have hil2 : i < xs.length := by omega
          have hg3 := lrow_lt hL2
          have el2 := objAt_lt oX2
          clear hLV BV TV oX b2 C1 k0 k1 k2 PV hL2 oX2 hL3 B2 B3 T3
          go_wp2
          go_roundw
          case rel =>
            obtain ⟨q1, q2, q3⟩ := Q.out
            exact ⟨i + 1, j + 1, d.set i x, by simp, by simp, by omega, by omega, HK2, q3, q1, q2⟩
          case measure => simp [intOf]; omega
      case neg =>
        obtain rfl : j = xs.length := by omega
        obtain ⟨E1, E2, E3⟩ := kinv_end HKI.out
        have hcapd := (show d.length ≤ cap by obtain ⟨_, _, _, _, h, _⟩ := hL; exact h)
        have hcl : ∀ ty, (Builtin.clear_ #[24] ty #[.slice (some ⟨g, i * 3, none⟩) (xs.length - i) (cap - i)]).run Tryz.prog wr = .ok (.tuple #[]) (wr.setCells g (i * 3) (Builtin.zeroCells (Value.agg #[.string ⟨#[]⟩, .string ⟨#[]⟩, .int .i64 0]).cells (xs.length - i)).toList) := fun ty =>
          run_clear_k wr 24 42 ty (.agg #[.string ⟨#[]⟩, .string ⟨#[]⟩, .int .i64 0]) Tryz.underlying24 Tryz.zeroValue42 g (i * 3) _ _ (by omega) _ rfl (zeros_one _) (fun t ht => lrow_some hL (by rw [zeros_len] at ht; omega)) (fun t _ => lrow_free hL _)
        have hL2 := lrow_clear hL (i := i) (by omega) (Builtin.zeroCells (Value.agg #[.string ⟨#[]⟩, .string ⟨#[]⟩, .int .i64 0]).cells (xs.length - i)).toList
        obtain ⟨us, hus⟩ : ∃ us, (Builtin.zeroCells (Value.agg #[.string ⟨#[]⟩, .string ⟨#[]⟩, .int .i64 0]).cells (xs.length - i)).toList = us := ⟨_, rfl⟩
        rw [hus] at hcl hL2
        have own := lrow_own (B := N) hL2 hg (Nat.le_refl _)
        rw [List.take_length, E1, ← E2] at own
        have BF := gN_below hbr (Nat.le_trans hN hbr.size) hg (setCells_gN g us wr (i * 3))
        have Q := Lib.hid (And.intro own BF)
        have HE2 := Lib.hid E2
        have hgl := lrow_lt hL
        have hz : ¬ ((xs.length : Int) - (i : Int) < 0) := by omega
        clear hL hL2 hbr own BF E1 E2 hus
        go_wp2
        go_ret
        exact ⟨some ⟨g, 0, none⟩, cap, by rw [← HE2.out]; rfl, by rw [← HE2.out]; exact Q.out.1, Q.out.2⟩
end
theorem below_trans' {B : Nat} {w0 w1 w2 : World} (h : Below B w0 w1) (k : Below B w1 w2) : Below B w0 w2 := h.trans k
theorem own_empty (w : World) (e sz : Nat) : (w.alloc (.cells #[] e)).ownsRow w.heap.size e sz (.slice (some ⟨w.heap.size, 0, none⟩) 0 0) 0 [] := ⟨by simp, .inr ⟨w.heap.size, 0, #[], rfl, Nat.le_refl _, heap_alloc_new w _, Nat.le_refl _, Nat.zero_le _, by simp, by simp⟩⟩
set_option maxRecDepth 100000 in
theorem svClone_is (xs : List LeaseD) (ad : Option Addr) (cap : Nat) (hl : xs.length ≤ 1000) (w : World) (hx : w.ownsRow 0 42 3 (.slice ad xs.length cap) xs.length (cLeases xs)) :
    Calls Tryz.prog 170 #[.slice ad xs.length cap] w fun e w' => ∃ ad' cap', e = .returned (.slice ad' xs.length cap') ∧ w'.ownsRow w.heap.size 42 3 (.slice ad' xs.length cap') xs.length (cLeases xs) ∧ Below w.heap.size w w' := by
  rcases lrow_of hx rfl with ⟨rfl, rfl, rfl⟩ | ⟨g, rfl, _, hL⟩
  · have hq : ∀ w : World, (binOp BinOp.eql 24 (.slice none 0 0) (.slice none 0 0)).run Tryz.prog w = .ok (.bool true) w := fun w => Lib.run_eql_slice_nil w _ _ none 0 0 0 0 Tryz.underlying24
    clear hx
    go_enter Tryz.func170, Tryz.ntmps170
    go_wp2
    go_ret
    exact ⟨none, 0, rfl, World.ownsRow_nil _ _ _ _, Below.refl _ _⟩
  · obtain ⟨i0, qi, qz0, qz1, qz2⟩ := info_parts' Tryz.info_lease
    have Hi := Lib.hid qi
    have Hz0 := Lib.hid qz0
    have Hz1 := Lib.hid qz1
    have Hz2 := Lib.hid qz2
    have bA := below_one w (.cells #[] 42)
    have HX := Lib.hid (leasesAt_next (ownLeases hx rfl) bA)
    have HB := Lib.hid bA
    have HO := Lib.hid (own_empty w 42 3)
    have hq : ∀ w : World, (binOp BinOp.eql 24 (.slice (some ⟨g, 0, none⟩) xs.length cap) (.slice none 0 0)).run Tryz.prog w = .ok (.bool false) w := fun w => Lib.run_eql_slice_nil w _ _ (some ⟨g, 0, none⟩) _ _ 0 0 Tryz.underlying24
    clear qi qz0 qz1 qz2 hx hL bA
    go_enter Tryz.func170, Tryz.ntmps170
    go_wp2_with (at_builtin; refine wpList_app rfl _ _ 24 rfl w.heap.size 42 i0 _ 3 40 Tryz.underlying24 Hi.out Hz0.out Hz1.out Hz2.out rfl (by decide) _ _ _ rfl HO.out _ _ _ (cLeases xs) rfl ?c1 ?c2 ?c3 ?c4 ?c5 ?c6 ?_)
    case c1 => rw [cLeases_length]
    case c2 => exact src_lease HX.out
    case c3 => exact cLeases_ones xs
    case c4 => unfold maxLen; omega
    case c5 => omega
    case c6 => exact HB.out.size
    intro v' w1 own1 hg _
    have B2 := Lib.hid (HB.out.grown hg HB.out.size (fun k hk => (HO.out.lt k hk).1))
    have own2 : w1.ownsRow w.heap.size 42 3 v' xs.length (cLeases xs) := by simpa using own1
    obtain ⟨ad2, cap2, rfl⟩ := ownRow_slice own2
    have O2 := Lib.hid own2
    clear own1 own2 hg
    go_wp2
    go_ret
    exact ⟨ad2, cap2, rfl, O2.out, B2.out⟩
section
variable (fn : Nat) (lb : Array Value) (eg : ∀ args w, (callFunc fn args).run Tryz.prog w = .ok (.enter fn args) w) (p : LeaseD → Bool) (T : World → Prop) (hTn : ∀ w w', T w → Below w.heap.size w w' → T w')
  (HP : ∀ (x : LeaseD) (w : World), T w → Calls Tryz.prog fn (#[.agg #[.string x.job, .string x.node, .int .i64 x.til]] ++ lb) w fun e w' => e = .returned (.bool (p x)) ∧ Below w.heap.size w w')
include eg hTn HP
set_option maxRecDepth 100000 in
set_option maxHeartbeats 2000000 in
theorem svEnd_is (v : SvD) (aj an al : Option Addr) (cj cn cl : Nat) (c : Nat) (hl : v.s.leases.length ≤ 100) (w : World) (hT : T w) (hTs : ∀ V b j u, w.heap.size ≤ b → T V → T (V.setCell ⟨b, j, none⟩ u)) (ho : ObjAt c (svC v aj an al cj cn cl) 117 w) (hx : OwnS 0 aj an al cj cn cl v.s w) :
    Calls Tryz.prog 139 #[.pointer (some ⟨c, 0, none⟩), .func (.func fn) #[] lb] w fun e w' => e = .returned (.tuple #[]) ∧ TxAt c ⟨⟨v.s.rev, v.s.jobs, v.s.nodes, v.s.leases.filter fun x => !p x⟩, v.now⟩ w' ∧ w.grownBy w' (some c) := by
  unfold svC at ho
  have k3 := objAt_cell ho 3 rfl
  have hcl := objAt_lt ho
  have C1 := Lib.hid (svClone_is v.s.leases al cl (by omega) w hx.2.2)
  have HX := Lib.hid hx
  have HO := Lib.hid ho
  have HT := Lib.hid hT
  have HTn := Lib.hid hTn
  have HTs := Lib.hid hTs
  have HPP := Lib.hid HP
  clear hx ho hT hTn hTs HP
  go_enter Tryz.func139, Tryz.ntmps139
  go_wp2_with fail
  refine C1.out.mono ?_
  rintro e w1 ⟨ad1, cap1, rfl, own1, b1⟩
  have C2 := Lib.hid (svDelete_is fn lb eg p T w.heap.size HTn.out HTs.out HPP.out v.s.leases ad1 cap1 (by omega) w1 (HTn.out _ _ HT.out b1) b1.size own1)
  have B1 := Lib.hid b1
  clear b1 own1 C1 k3
  go_wp2_with fail
  refine C2.out.mono ?_
  rintro e w2 ⟨ad2, cap2, rfl, own2, b2⟩
  have B2 := below_trans' B1.out b2
  have o2 := objAt_next HO.out B2
  have x2 := ownS_next HX.out B2
  have hcl2 := objAt_lt o2
  have e3 := objAt_cell o2 3 rfl
  have g3 := objAt_free o2 3
  have HF : Hid (ObjAt c (svC ⟨⟨v.s.rev, v.s.jobs, v.s.nodes, v.s.leases.filter fun x => !p x⟩, v.now⟩ aj an ad2 cj cn cap2) 117 (w2.setCell ⟨c, 3, none⟩ (.slice ad2 (v.s.leases.filter fun x => !p x).length cap2))) := objAt_set o2 3 _
  have HR : Hid (OwnS 0 aj an ad2 cj cn cap2 ⟨v.s.rev, v.s.jobs, v.s.nodes, v.s.leases.filter fun x => !p x⟩ (w2.setCell ⟨c, 3, none⟩ (.slice ad2 (v.s.leases.filter fun x => !p x).length cap2))) := ⟨own_box x2.1 o2 rowT_tx.1 3 _, own_box x2.2.1 o2 rowT_tx.2.1 3 _, own_box (own_is own2) o2 rowT_tx.2.2 3 _⟩
  have HG : Hid (w.grownBy (w2.setCell ⟨c, 3, none⟩ (.slice ad2 (v.s.leases.filter fun x => !p x).length cap2)) (some c)) := gN_set (gN_of_below B2) 3 _
  clear o2 x2 own2 b2 B2 C2
  go_wp2
  first | go_end0 | refine bodyPost_ret (results_none rfl _ _ _) rfl ?_
  exact ⟨rfl, ⟨aj, an, ad2, cj, cn, cap2, HF.out, HR.out⟩, HG.out⟩
end
end Go.Proofs.YthpgkfonbmffdaaGreatDoor
