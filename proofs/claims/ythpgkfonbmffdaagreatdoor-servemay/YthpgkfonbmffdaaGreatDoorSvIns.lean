/- insert: a row put in its place. -/
import Derived.Test.YthpgkfonbmffdaaGreatDoorSvCat
import Derived.Test.YthpgkfonbmffdaaGreatDoorSvMem
import Derived.Deep.RegionLaw
namespace Go.Proofs.YthpgkfonbmffdaaGreatDoor
open Go.RowKit Go.Lib

section
variable {α : Type} {key : α → ByteArray} {l : List α} {k : ByteArray} {p : Nat}
theorem putL_front : ∀ (p q : List α) (x : α), (∀ z ∈ p, lt (key z) (key x)) → putL key x (p ++ q) = p ++ putL key x q
  | [], _, _, _ => rfl
  | y :: p, q, x, h => by
    have ih := putL_front p q x (fun z hz => h z (List.mem_cons_of_mem _ hz))
    show putL key x (y :: (p ++ q)) = y :: (p ++ putL key x q)
    rw [← ih]
    conv => lhs; unfold putL
    rw [if_pos (h y List.mem_cons_self)]
theorem pos_has (ha : Asc key l) (h : PosP key l k p) (hz : ∃ z ∈ l, key z = k) : ∃ hp : p < l.length, key l[p] = k := by
  obtain ⟨z, hz, e⟩ := hz
  obtain ⟨t, ht, rfl⟩ := List.getElem_of_mem hz
  have h1 : p ≤ t := by
    by_cases h1 : t < p
    · exact absurd e (lt_ne (h.2.1 t ht h1))
    · omega
  by_cases h2 : p = t
  · subst h2; exact ⟨ht, e⟩
  · have h3 := List.pairwise_iff_getElem.1 ha p t (by omega) ht (by omega)
    rw [e] at h3
    exact absurd h3 (h.2.2 p (by omega) (Nat.le_refl _))
theorem pos_ahead (h : PosP key l k p) : ∀ z ∈ l.take p, lt (key z) k := by
  intro z hz
  obtain ⟨t, ht, rfl⟩ := List.mem_take_iff_getElem.1 hz
  exact h.2.1 t (by omega) (by omega)
theorem put_pos_old {x : α} (ha : Asc key l) (h : PosP key l (key x) p) (hz : ∃ z ∈ l, key z = key x) : putL key x l = l.take p ++ [x] ++ l.drop (p + 1) := by
  obtain ⟨hp, e⟩ := pos_has ha h hz
  conv => lhs; rw [← List.take_append_drop p l]
  rw [putL_front _ _ _ (pos_ahead h), List.drop_eq_getElem_cons hp]
  unfold putL
  rw [if_neg (h.2.2 p hp (Nat.le_refl _)), if_pos e]
  simp
theorem put_pos_new {x : α} (h : PosP key l (key x) p) (hz : ∀ z ∈ l, key z ≠ key x) : putL key x l = l.take p ++ [x] ++ l.drop p := by
  conv => lhs; rw [← List.take_append_drop p l]
  rw [putL_front _ _ _ (pos_ahead h)]
  by_cases hp : p < l.length
  · rw [List.drop_eq_getElem_cons hp]
    unfold putL
    rw [if_neg (h.2.2 p hp (Nat.le_refl _)), if_neg (hz _ (List.getElem_mem hp))]
    simp
  · rw [List.drop_eq_nil_of_le (by omega)]
    simp [putL]
theorem but_pos (q : α → Bool) (hq : ∀ z, q z = true ↔ key z = k) (ha : Asc key l) (h : PosP key l k p) (hz : ∃ z ∈ l, key z = k) : l.take p ++ l.drop (p + 1) = l.filter fun z => !q z := by
  obtain ⟨hp, e⟩ := pos_has ha h hz
  conv => rhs; rw [← List.take_append_drop p l]
  rw [List.filter_append, List.drop_eq_getElem_cons hp, List.filter_cons]
  have h1 : (l.take p).filter (fun z => !q z) = l.take p := by
    rw [List.filter_eq_self]
    intro z hz
    have := lt_ne (pos_ahead h z hz)
    have : q z = false := by
      cases hqz : q z with
      | false => rfl
      | true => exact absurd ((hq z).1 hqz) this
    rw [this]; rfl
  have h2 : (l.drop (p + 1)).filter (fun z => !q z) = l.drop (p + 1) := by
    rw [List.filter_eq_self]
    intro z hz
    have hn := asc_ne ha p hp z (List.mem_append_right _ hz)
    rw [e] at hn
    have : q z = false := by
      cases hqz : q z with
      | false => rfl
      | true => exact absurd ((hq z).1 hqz) hn
    rw [this]; rfl
  have h3 : q l[p] = true := (hq _).2 e
  rw [h1, h2, h3]
  simp
end
theorem own_caps {w : World} {B e sz n cap : Nat} {ad : Option Addr} {xs : List Value} (h : w.ownsRow B e sz (.slice ad n cap) n xs) : n ≤ cap := by
  rcases h.2 with ⟨h0, h1⟩ | ⟨g, c, cur, hv, _, _, hc, _⟩
  · omega
  · simp only [Value.slice.injEq] at hv
    omega
theorem put_len2 {α : Type} (key : α → ByteArray) (x : α) : ∀ l : List α, (putL key x l).length ≤ l.length + 1
  | [] => by simp [putL]
  | y :: l => by
    have := put_len2 key x l
    unfold putL
    split
    · simp only [List.length_cons]; omega
    · split <;> simp


/-! ### Job -/
theorem oneJobAt {L : Nat} {x : JobD} {w : World} (o : ObjAt L #[.string x.name, .int .i64 x.prio, .int .i64 x.need, .int .i64 x.tries, .string x.tag] 38 w) : JobsAt w (some ⟨L, 0, none⟩) [x] := by
  intro i hi
  obtain rfl : i = 0 := by simpa using hi
  refine ⟨⟨L, 0, none⟩, rfl, objAt_lt o, ?_, ?_, ?_, ?_, ?_⟩
  · simpa [Addr.add] using objAt_cell o 0 rfl
  · simpa [Addr.add] using objAt_cell o 1 rfl
  · simpa [Addr.add] using objAt_cell o 2 rfl
  · simpa [Addr.add] using objAt_cell o 3 rfl
  · simpa [Addr.add] using objAt_cell o 4 rfl
theorem tailJobAt {w : World} {ad : Option Addr} {xs : List JobD} {cap k : Nat} (h : JobsAt w ad xs) (hc : xs.length ≤ cap) : JobsAt w (if cap = k then ad else Option.map (fun a => a.add (k * 5)) ad) (xs.drop k) := by
  split
  · rw [List.drop_eq_nil_of_le (by omega)]; intro i hi; simp at hi
  · cases ad with
    | none => intro i hi; obtain ⟨a, ha, _⟩ := h 0 (by simp at hi; omega); cases ha
    | some a => exact jobsAt_drop h k
theorem parts3Job (w : World) (x : JobD) (ad : Option Addr) (xs : List JobD) (cap p k : Nat) (h : JobsAt w ad xs) (hc : xs.length ≤ cap) (hp : p ≤ xs.length) : PartsJob (((w.alloc (.cells #[.string x.name, .int .i64 x.prio, .int .i64 x.need, .int .i64 x.tries, .string x.tag] 38)).alloc (.cells #[.slice ad p cap, .slice (some ⟨w.heap.size, 0, none⟩) 1 1, .slice (if cap = k then ad else Option.map (fun a => a.add (k * 5)) ad) (xs.length - k) (cap - k)] 22)).drew) (w.heap.size + 1) [(ad, xs.take p, cap), (some ⟨w.heap.size, 0, none⟩, [x], 1), (if cap = k then ad else Option.map (fun a => a.add (k * 5)) ad, xs.drop k, cap - k)] := by
  have o1 := objAt_new w #[.string x.name, .int .i64 x.prio, .int .i64 x.need, .int .i64 x.tries, .string x.tag] 38
  have b1 := below_one w (.cells #[.string x.name, .int .i64 x.prio, .int .i64 x.need, .int .i64 x.tries, .string x.tag] 38)
  obtain ⟨W1, h1⟩ : ∃ W, w.alloc (.cells #[.string x.name, .int .i64 x.prio, .int .i64 x.need, .int .i64 x.tries, .string x.tag] 38) = W := ⟨_, rfl⟩
  rw [h1] at o1 b1 ⊢
  have s1 : W1.heap.size = w.heap.size + 1 := by rw [← h1, World.size_alloc]
  obtain ⟨q, hq⟩ : ∃ q, (if cap = k then ad else Option.map (fun a => a.add (k * 5)) ad) = q := ⟨_, rfl⟩
  have ht := tailJobAt (k := k) h hc
  rw [hq] at ht ⊢
  have o2 := objAt_new W1 #[.slice ad p cap, .slice (some ⟨w.heap.size, 0, none⟩) 1 1, .slice q (xs.length - k) (cap - k)] 22
  rw [s1] at o2
  have b2 := below_one W1 (.cells #[.slice ad p cap, .slice (some ⟨w.heap.size, 0, none⟩) 1 1, .slice q (xs.length - k) (cap - k)] 22)
  have bb := below_trans b1 b2 b1.size
  obtain ⟨W2, h2⟩ : ∃ W, W1.alloc (.cells #[.slice ad p cap, .slice (some ⟨w.heap.size, 0, none⟩) 1 1, .slice q (xs.length - k) (cap - k)] 22) = W := ⟨_, rfl⟩
  rw [h2] at o2 b2 bb ⊢
  have z : ∀ i, W2.drew.cell? ⟨w.heap.size + 1, i, none⟩ = W2.cell? ⟨w.heap.size + 1, i, none⟩ := fun i => rfl
  refine ⟨objAt_lt (objAt_drew o2), fun i hi => ?_⟩
  have hi : i < 3 := hi
  obtain rfl | rfl | rfl : i = 0 ∨ i = 1 ∨ i = 2 := by omega
  · refine ⟨?_, jobsAt_next (jobsAt_take h p) bb.drew⟩
    show W2.drew.cell? _ = some (.slice ad (xs.take p).length cap)
    rw [z, List.length_take, Nat.min_eq_left hp]; exact objAt_cell o2 0 rfl
  · exact ⟨objAt_cell (objAt_drew o2) 1 rfl, oneJobAt (objAt_drew (objAt_next o1 b2))⟩
  · refine ⟨?_, jobsAt_next ht bb.drew⟩
    show W2.drew.cell? _ = some (.slice q (xs.drop k).length (cap - k))
    rw [z, List.length_drop]; exact objAt_cell o2 2 rfl
theorem svCat3Job_is {a1 a2 a3 : Option Addr} {l1 l2 l3 out : List JobD} {c1 c2 c3 ob c : Nat} {w : World} (he : l1 ++ l2 ++ l3 = out) (hl : out.length ≤ 1000) (hx : PartsJob w ob [(a1, l1, c1), (a2, l2, c2), (a3, l3, c3)]) :
    Calls Tryz.prog 136 #[.slice (some ⟨ob, 0, none⟩) 3 c] w fun e w' => ∃ ad cap, e = .returned (.slice ad out.length cap) ∧ w'.ownsRow w.heap.size 38 5 (.slice ad out.length cap) out.length (cJobs out) ∧ Below w.heap.size w w' := by
  have e : catJob [(a1, l1, c1), (a2, l2, c2), (a3, l3, c3)] = out := by rw [← he]; simp [catJob]
  have h := svCatJob_is [(a1, l1, c1), (a2, l2, c2), (a3, l3, c3)] ob c (by rw [e]; exact hl) (by simp) w hx
  rw [e] at h
  exact h
theorem svCat2Job_is {a1 a2 : Option Addr} {l1 l2 out : List JobD} {c1 c2 ob c : Nat} {w : World} (he : l1 ++ l2 = out) (hl : out.length ≤ 1000) (hx : PartsJob w ob [(a1, l1, c1), (a2, l2, c2)]) :
    Calls Tryz.prog 136 #[.slice (some ⟨ob, 0, none⟩) 2 c] w fun e w' => ∃ ad cap, e = .returned (.slice ad out.length cap) ∧ w'.ownsRow w.heap.size 38 5 (.slice ad out.length cap) out.length (cJobs out) ∧ Below w.heap.size w w' := by
  have e : catJob [(a1, l1, c1), (a2, l2, c2)] = out := by rw [← he]; simp [catJob]
  have h := svCatJob_is [(a1, l1, c1), (a2, l2, c2)] ob c (by rw [e]; exact hl) (by simp) w hx
  rw [e] at h
  exact h
set_option maxRecDepth 100000 in
set_option maxHeartbeats 4000000 in
theorem svInsJob_old (xs : List JobD) (ha : Asc (·.name) xs) (x : JobD) (ad : Option Addr) (cap : Nat) (hl : xs.length ≤ 100) (hcap : xs.length ≤ cap) (hh : hasJob xs x.name = true) (w : World) (hx : JobsAt w ad xs) :
    Calls Tryz.prog 111 #[.slice ad xs.length cap, .agg #[.string x.name, .int .i64 x.prio, .int .i64 x.need, .int .i64 x.tries, .string x.tag], .func (.func 51) #[] #[]] w fun e w' => ∃ ad' cap', e = .returned (.slice ad' (putL (·.name) x xs).length cap') ∧ w'.ownsRow w.heap.size 38 5 (.slice ad' (putL (·.name) x xs).length cap') (putL (·.name) x xs).length (cJobs (putL (·.name) x xs)) ∧ Below w.heap.size w w' := by
  obtain ⟨W, hW⟩ : ∃ W, w.alloc (.cells #[.string x.name, .int .i64 x.prio, .int .i64 x.need, .int .i64 x.tries, .string x.tag] 38) = W := ⟨_, rfl⟩
  have bA := below_one w (.cells #[.string x.name, .int .i64 x.prio, .int .i64 x.need, .int .i64 x.tries, .string x.tag] 38)
  have oX := objAt_new w #[.string x.name, .int .i64 x.prio, .int .i64 x.need, .int .i64 x.tries, .string x.tag] 38
  rw [hW] at bA oX
  have x0 := objAt_cell oX 0 rfl
  have x1 := objAt_cell oX 1 rfl
  have x2 := objAt_cell oX 2 rfl
  have x3 := objAt_cell oX 3 rfl
  have x4 := objAt_cell oX 4 rfl
  have OX := Lib.hid oX
  have BA := Lib.hid bA
  have HX := Lib.hid hx
  have HA := Lib.hid ha
  have HH := Lib.hid hh
  clear oX bA hx ha
  go_enter Tryz.func111, Tryz.ntmps111
  go_wp2_with fail
  refine (jobKey_eq x _).mono ?_
  rintro e w2 ⟨rfl, rfl⟩
  have b2 := below_one W (.cells #[.string x.name, .int .i64 x.prio, .int .i64 x.need, .int .i64 x.tries, .string x.tag] 38)
  have B2 := below_trans BA.out b2 BA.out.size
  have C1 := svFindJob_is xs HA.out x.name ad cap hl _ (jobsAt_next HX.out B2)
  rw [hh] at C1
  have C1 := Lib.hid C1
  have O2 := Lib.hid (objAt_next OX.out b2)
  have BB2 := Lib.hid B2
  clear b2 B2 hh
  go_wp2_with fail
  refine C1.out.mono ?_
  rintro e w3 ⟨p, rfl, hp, b3⟩
  have o3 := objAt_next O2.out b3
  have B3 := Lib.hid (below_trans BB2.out b3 BB2.out.size)
  have y0 := objAt_cell o3 0 rfl
  have y1 := objAt_cell o3 1 rfl
  have y2 := objAt_cell o3 2 rfl
  have y3 := objAt_cell o3 3 rfl
  have y4 := objAt_cell o3 4 rfl
  have hpl := hp.1
  have hpc : p ≤ cap := Nat.le_trans hpl hcap
  have HP := Lib.hid hp
  obtain ⟨hpp, hpe⟩ := pos_has HA.out hp ((hasJob_iff xs x.name).1 HH.out)
  have HE := Lib.hid (put_pos_old HA.out hp ((hasJob_iff xs x.name).1 HH.out))
  have hp1 : (0 : Int) ≤ (p : Int) + 1 ∧ (p : Int) + 1 ≤ (xs.length : Int) := ⟨by omega, by omega⟩
  obtain ⟨hp1, hp2⟩ := hp1
  clear hpe
  have hol := objAt_lt o3
  obtain ⟨out, hout⟩ : ∃ out, xs.take p ++ [x] ++ xs.drop (p + 1) = out := ⟨_, rfl⟩
  rw [hout] at HE
  have hlo : out.length ≤ 1000 := by have := put_len2 (·.name) x xs; rw [HE.out] at this; omega
  have C2 := Lib.hid (svCat3Job_is (c := 3) hout hlo (parts3Job w3 x ad xs cap p (p + 1) (jobsAt_next HX.out B3.out) hcap hpl))
  have BB : Hid (Below w.heap.size w (((w3.alloc (.cells #[.string x.name, .int .i64 x.prio, .int .i64 x.need, .int .i64 x.tries, .string x.tag] 38)).alloc (.cells #[.slice ad p cap, .slice (some ⟨w3.heap.size, 0, none⟩) 1 1, .slice (if cap = p + 1 then ad else Option.map (fun a => a.add ((p + 1) * 5)) ad) (xs.length - (p + 1)) (cap - (p + 1))] 22)).drew)) := ((B3.out.alloc B3.out.size _).alloc (by have s3 := B3.out.size; rw [World.size_alloc]; omega) _).drew
  clear hout o3 b3 hp C1 x0 x1 x2 x3 x4 HX HA HH O2 BB2 HP hlo
  go_wp2_with fail
  go_region_law (first | (go_simp; go_at_call 136; (with_reducible refine C2.out.mono ?_); rintro e v ⟨rad, rcap, rfl, rown, rb⟩))
  all_goals
    have RO := Lib.hid (ownsRow_low rown BB.out.size)
    have RB := Lib.hid (below_trans BB.out rb BB.out.size)
    clear rown rb BB C2 B3
    generalize (if cap = p + 1 then ad else Option.map (fun x => x.add ((p + 1) * 5)) ad) = qq
    go_wp2
    go_ret
    exact ⟨rad, rcap, by rw [HE.out]; rfl, by rw [HE.out]; exact RO.out, RB.out⟩
set_option maxRecDepth 100000 in
set_option maxHeartbeats 4000000 in
theorem svInsJob_new (xs : List JobD) (ha : Asc (·.name) xs) (x : JobD) (ad : Option Addr) (cap : Nat) (hl : xs.length ≤ 100) (hcap : xs.length ≤ cap) (hh : hasJob xs x.name = false) (w : World) (hx : JobsAt w ad xs) :
    Calls Tryz.prog 111 #[.slice ad xs.length cap, .agg #[.string x.name, .int .i64 x.prio, .int .i64 x.need, .int .i64 x.tries, .string x.tag], .func (.func 51) #[] #[]] w fun e w' => ∃ ad' cap', e = .returned (.slice ad' (putL (·.name) x xs).length cap') ∧ w'.ownsRow w.heap.size 38 5 (.slice ad' (putL (·.name) x xs).length cap') (putL (·.name) x xs).length (cJobs (putL (·.name) x xs)) ∧ Below w.heap.size w w' := by
  obtain ⟨W, hW⟩ : ∃ W, w.alloc (.cells #[.string x.name, .int .i64 x.prio, .int .i64 x.need, .int .i64 x.tries, .string x.tag] 38) = W := ⟨_, rfl⟩
  have bA := below_one w (.cells #[.string x.name, .int .i64 x.prio, .int .i64 x.need, .int .i64 x.tries, .string x.tag] 38)
  have oX := objAt_new w #[.string x.name, .int .i64 x.prio, .int .i64 x.need, .int .i64 x.tries, .string x.tag] 38
  rw [hW] at bA oX
  have x0 := objAt_cell oX 0 rfl
  have x1 := objAt_cell oX 1 rfl
  have x2 := objAt_cell oX 2 rfl
  have x3 := objAt_cell oX 3 rfl
  have x4 := objAt_cell oX 4 rfl
  have OX := Lib.hid oX
  have BA := Lib.hid bA
  have HX := Lib.hid hx
  have HA := Lib.hid ha
  have HH := Lib.hid hh
  clear oX bA hx ha
  go_enter Tryz.func111, Tryz.ntmps111
  go_wp2_with fail
  refine (jobKey_eq x _).mono ?_
  rintro e w2 ⟨rfl, rfl⟩
  have b2 := below_one W (.cells #[.string x.name, .int .i64 x.prio, .int .i64 x.need, .int .i64 x.tries, .string x.tag] 38)
  have B2 := below_trans BA.out b2 BA.out.size
  have C1 := svFindJob_is xs HA.out x.name ad cap hl _ (jobsAt_next HX.out B2)
  rw [hh] at C1
  have C1 := Lib.hid C1
  have O2 := Lib.hid (objAt_next OX.out b2)
  have BB2 := Lib.hid B2
  clear b2 B2 hh
  go_wp2_with fail
  refine C1.out.mono ?_
  rintro e w3 ⟨p, rfl, hp, b3⟩
  have o3 := objAt_next O2.out b3
  have B3 := Lib.hid (below_trans BB2.out b3 BB2.out.size)
  have y0 := objAt_cell o3 0 rfl
  have y1 := objAt_cell o3 1 rfl
  have y2 := objAt_cell o3 2 rfl
  have y3 := objAt_cell o3 3 rfl
  have y4 := objAt_cell o3 4 rfl
  have hpl := hp.1
  have hpc : p ≤ cap := Nat.le_trans hpl hcap
  have HP := Lib.hid hp
  have HE := Lib.hid (put_pos_new hp (fun z hz e => by have := (hasJob_iff xs x.name).2 ⟨z, hz, e⟩; rw [HH.out] at this; cases this))
  have hol := objAt_lt o3
  obtain ⟨out, hout⟩ : ∃ out, xs.take p ++ [x] ++ xs.drop (p) = out := ⟨_, rfl⟩
  rw [hout] at HE
  have hlo : out.length ≤ 1000 := by have := put_len2 (·.name) x xs; rw [HE.out] at this; omega
  have C2 := Lib.hid (svCat3Job_is (c := 3) hout hlo (parts3Job w3 x ad xs cap p (p) (jobsAt_next HX.out B3.out) hcap hpl))
  have BB : Hid (Below w.heap.size w (((w3.alloc (.cells #[.string x.name, .int .i64 x.prio, .int .i64 x.need, .int .i64 x.tries, .string x.tag] 38)).alloc (.cells #[.slice ad p cap, .slice (some ⟨w3.heap.size, 0, none⟩) 1 1, .slice (if cap = p then ad else Option.map (fun a => a.add ((p) * 5)) ad) (xs.length - (p)) (cap - (p))] 22)).drew)) := ((B3.out.alloc B3.out.size _).alloc (by have s3 := B3.out.size; rw [World.size_alloc]; omega) _).drew
  clear hout o3 b3 hp C1 x0 x1 x2 x3 x4 HX HA HH O2 BB2 HP hlo
  go_wp2_with fail
  go_region_law (first | (go_simp; go_at_call 136; (with_reducible refine C2.out.mono ?_); rintro e v ⟨rad, rcap, rfl, rown, rb⟩))
  all_goals
    have RO := Lib.hid (ownsRow_low rown BB.out.size)
    have RB := Lib.hid (below_trans BB.out rb BB.out.size)
    clear rown rb BB C2 B3
    generalize (if cap = p then ad else Option.map (fun x => x.add ((p) * 5)) ad) = qq
    go_wp2
    go_ret
    exact ⟨rad, rcap, by rw [HE.out]; rfl, by rw [HE.out]; exact RO.out, RB.out⟩

/-! ### Node -/
theorem oneNodeAt {L : Nat} {x : NodeD} {w : World} (o : ObjAt L #[.string x.name, .int .i64 x.room, .string x.zone] 40 w) : NodesAt w (some ⟨L, 0, none⟩) [x] := by
  intro i hi
  obtain rfl : i = 0 := by simpa using hi
  refine ⟨⟨L, 0, none⟩, rfl, objAt_lt o, ?_, ?_, ?_⟩
  · simpa [Addr.add] using objAt_cell o 0 rfl
  · simpa [Addr.add] using objAt_cell o 1 rfl
  · simpa [Addr.add] using objAt_cell o 2 rfl
theorem tailNodeAt {w : World} {ad : Option Addr} {xs : List NodeD} {cap k : Nat} (h : NodesAt w ad xs) (hc : xs.length ≤ cap) : NodesAt w (if cap = k then ad else Option.map (fun a => a.add (k * 3)) ad) (xs.drop k) := by
  split
  · rw [List.drop_eq_nil_of_le (by omega)]; intro i hi; simp at hi
  · cases ad with
    | none => intro i hi; obtain ⟨a, ha, _⟩ := h 0 (by simp at hi; omega); cases ha
    | some a => exact nodesAt_drop h k
theorem parts3Node (w : World) (x : NodeD) (ad : Option Addr) (xs : List NodeD) (cap p k : Nat) (h : NodesAt w ad xs) (hc : xs.length ≤ cap) (hp : p ≤ xs.length) : PartsNode (((w.alloc (.cells #[.string x.name, .int .i64 x.room, .string x.zone] 40)).alloc (.cells #[.slice ad p cap, .slice (some ⟨w.heap.size, 0, none⟩) 1 1, .slice (if cap = k then ad else Option.map (fun a => a.add (k * 3)) ad) (xs.length - k) (cap - k)] 23)).drew) (w.heap.size + 1) [(ad, xs.take p, cap), (some ⟨w.heap.size, 0, none⟩, [x], 1), (if cap = k then ad else Option.map (fun a => a.add (k * 3)) ad, xs.drop k, cap - k)] := by
  have o1 := objAt_new w #[.string x.name, .int .i64 x.room, .string x.zone] 40
  have b1 := below_one w (.cells #[.string x.name, .int .i64 x.room, .string x.zone] 40)
  obtain ⟨W1, h1⟩ : ∃ W, w.alloc (.cells #[.string x.name, .int .i64 x.room, .string x.zone] 40) = W := ⟨_, rfl⟩
  rw [h1] at o1 b1 ⊢
  have s1 : W1.heap.size = w.heap.size + 1 := by rw [← h1, World.size_alloc]
  obtain ⟨q, hq⟩ : ∃ q, (if cap = k then ad else Option.map (fun a => a.add (k * 3)) ad) = q := ⟨_, rfl⟩
  have ht := tailNodeAt (k := k) h hc
  rw [hq] at ht ⊢
  have o2 := objAt_new W1 #[.slice ad p cap, .slice (some ⟨w.heap.size, 0, none⟩) 1 1, .slice q (xs.length - k) (cap - k)] 23
  rw [s1] at o2
  have b2 := below_one W1 (.cells #[.slice ad p cap, .slice (some ⟨w.heap.size, 0, none⟩) 1 1, .slice q (xs.length - k) (cap - k)] 23)
  have bb := below_trans b1 b2 b1.size
  obtain ⟨W2, h2⟩ : ∃ W, W1.alloc (.cells #[.slice ad p cap, .slice (some ⟨w.heap.size, 0, none⟩) 1 1, .slice q (xs.length - k) (cap - k)] 23) = W := ⟨_, rfl⟩
  rw [h2] at o2 b2 bb ⊢
  have z : ∀ i, W2.drew.cell? ⟨w.heap.size + 1, i, none⟩ = W2.cell? ⟨w.heap.size + 1, i, none⟩ := fun i => rfl
  refine ⟨objAt_lt (objAt_drew o2), fun i hi => ?_⟩
  have hi : i < 3 := hi
  obtain rfl | rfl | rfl : i = 0 ∨ i = 1 ∨ i = 2 := by omega
  · refine ⟨?_, nodesAt_next (nodesAt_take h p) bb.drew⟩
    show W2.drew.cell? _ = some (.slice ad (xs.take p).length cap)
    rw [z, List.length_take, Nat.min_eq_left hp]; exact objAt_cell o2 0 rfl
  · exact ⟨objAt_cell (objAt_drew o2) 1 rfl, oneNodeAt (objAt_drew (objAt_next o1 b2))⟩
  · refine ⟨?_, nodesAt_next ht bb.drew⟩
    show W2.drew.cell? _ = some (.slice q (xs.drop k).length (cap - k))
    rw [z, List.length_drop]; exact objAt_cell o2 2 rfl
theorem svCat3Node_is {a1 a2 a3 : Option Addr} {l1 l2 l3 out : List NodeD} {c1 c2 c3 ob c : Nat} {w : World} (he : l1 ++ l2 ++ l3 = out) (hl : out.length ≤ 1000) (hx : PartsNode w ob [(a1, l1, c1), (a2, l2, c2), (a3, l3, c3)]) :
    Calls Tryz.prog 138 #[.slice (some ⟨ob, 0, none⟩) 3 c] w fun e w' => ∃ ad cap, e = .returned (.slice ad out.length cap) ∧ w'.ownsRow w.heap.size 40 3 (.slice ad out.length cap) out.length (cNodes out) ∧ Below w.heap.size w w' := by
  have e : catNode [(a1, l1, c1), (a2, l2, c2), (a3, l3, c3)] = out := by rw [← he]; simp [catNode]
  have h := svCatNode_is [(a1, l1, c1), (a2, l2, c2), (a3, l3, c3)] ob c (by rw [e]; exact hl) (by simp) w hx
  rw [e] at h
  exact h
theorem svCat2Node_is {a1 a2 : Option Addr} {l1 l2 out : List NodeD} {c1 c2 ob c : Nat} {w : World} (he : l1 ++ l2 = out) (hl : out.length ≤ 1000) (hx : PartsNode w ob [(a1, l1, c1), (a2, l2, c2)]) :
    Calls Tryz.prog 138 #[.slice (some ⟨ob, 0, none⟩) 2 c] w fun e w' => ∃ ad cap, e = .returned (.slice ad out.length cap) ∧ w'.ownsRow w.heap.size 40 3 (.slice ad out.length cap) out.length (cNodes out) ∧ Below w.heap.size w w' := by
  have e : catNode [(a1, l1, c1), (a2, l2, c2)] = out := by rw [← he]; simp [catNode]
  have h := svCatNode_is [(a1, l1, c1), (a2, l2, c2)] ob c (by rw [e]; exact hl) (by simp) w hx
  rw [e] at h
  exact h
set_option maxRecDepth 100000 in
set_option maxHeartbeats 4000000 in
theorem svInsNode_old (xs : List NodeD) (ha : Asc (·.name) xs) (x : NodeD) (ad : Option Addr) (cap : Nat) (hl : xs.length ≤ 100) (hcap : xs.length ≤ cap) (hh : hasNode xs x.name = true) (w : World) (hx : NodesAt w ad xs) :
    Calls Tryz.prog 112 #[.slice ad xs.length cap, .agg #[.string x.name, .int .i64 x.room, .string x.zone], .func (.func 54) #[] #[]] w fun e w' => ∃ ad' cap', e = .returned (.slice ad' (putL (·.name) x xs).length cap') ∧ w'.ownsRow w.heap.size 40 3 (.slice ad' (putL (·.name) x xs).length cap') (putL (·.name) x xs).length (cNodes (putL (·.name) x xs)) ∧ Below w.heap.size w w' := by
  obtain ⟨W, hW⟩ : ∃ W, w.alloc (.cells #[.string x.name, .int .i64 x.room, .string x.zone] 40) = W := ⟨_, rfl⟩
  have bA := below_one w (.cells #[.string x.name, .int .i64 x.room, .string x.zone] 40)
  have oX := objAt_new w #[.string x.name, .int .i64 x.room, .string x.zone] 40
  rw [hW] at bA oX
  have x0 := objAt_cell oX 0 rfl
  have x1 := objAt_cell oX 1 rfl
  have x2 := objAt_cell oX 2 rfl
  have OX := Lib.hid oX
  have BA := Lib.hid bA
  have HX := Lib.hid hx
  have HA := Lib.hid ha
  have HH := Lib.hid hh
  clear oX bA hx ha
  go_enter Tryz.func112, Tryz.ntmps112
  go_wp2_with fail
  refine (nodeKey_eq x _).mono ?_
  rintro e w2 ⟨rfl, rfl⟩
  have b2 := below_one W (.cells #[.string x.name, .int .i64 x.room, .string x.zone] 40)
  have B2 := below_trans BA.out b2 BA.out.size
  have C1 := svFindNode_is xs HA.out x.name ad cap hl _ (nodesAt_next HX.out B2)
  rw [hh] at C1
  have C1 := Lib.hid C1
  have O2 := Lib.hid (objAt_next OX.out b2)
  have BB2 := Lib.hid B2
  clear b2 B2 hh
  go_wp2_with fail
  refine C1.out.mono ?_
  rintro e w3 ⟨p, rfl, hp, b3⟩
  have o3 := objAt_next O2.out b3
  have B3 := Lib.hid (below_trans BB2.out b3 BB2.out.size)
  have y0 := objAt_cell o3 0 rfl
  have y1 := objAt_cell o3 1 rfl
  have y2 := objAt_cell o3 2 rfl
  have hpl := hp.1
  have hpc : p ≤ cap := Nat.le_trans hpl hcap
  have HP := Lib.hid hp
  obtain ⟨hpp, hpe⟩ := pos_has HA.out hp ((hasNode_iff xs x.name).1 HH.out)
  have HE := Lib.hid (put_pos_old HA.out hp ((hasNode_iff xs x.name).1 HH.out))
  have hp1 : (0 : Int) ≤ (p : Int) + 1 ∧ (p : Int) + 1 ≤ (xs.length : Int) := ⟨by omega, by omega⟩
  obtain ⟨hp1, hp2⟩ := hp1
  clear hpe
  have hol := objAt_lt o3
  obtain ⟨out, hout⟩ : ∃ out, xs.take p ++ [x] ++ xs.drop (p + 1) = out := ⟨_, rfl⟩
  rw [hout] at HE
  have hlo : out.length ≤ 1000 := by have := put_len2 (·.name) x xs; rw [HE.out] at this; omega
  have C2 := Lib.hid (svCat3Node_is (c := 3) hout hlo (parts3Node w3 x ad xs cap p (p + 1) (nodesAt_next HX.out B3.out) hcap hpl))
  have BB : Hid (Below w.heap.size w (((w3.alloc (.cells #[.string x.name, .int .i64 x.room, .string x.zone] 40)).alloc (.cells #[.slice ad p cap, .slice (some ⟨w3.heap.size, 0, none⟩) 1 1, .slice (if cap = p + 1 then ad else Option.map (fun a => a.add ((p + 1) * 3)) ad) (xs.length - (p + 1)) (cap - (p + 1))] 23)).drew)) := ((B3.out.alloc B3.out.size _).alloc (by have s3 := B3.out.size; rw [World.size_alloc]; omega) _).drew
  clear hout o3 b3 hp C1 x0 x1 x2 HX HA HH O2 BB2 HP hlo
  go_wp2_with fail
  go_region_law (first | (go_simp; go_at_call 138; (with_reducible refine C2.out.mono ?_); rintro e v ⟨rad, rcap, rfl, rown, rb⟩))
  all_goals
    have RO := Lib.hid (ownsRow_low rown BB.out.size)
    have RB := Lib.hid (below_trans BB.out rb BB.out.size)
    clear rown rb BB C2 B3
    generalize (if cap = p + 1 then ad else Option.map (fun x => x.add ((p + 1) * 3)) ad) = qq
    go_wp2
    go_ret
    exact ⟨rad, rcap, by rw [HE.out]; rfl, by rw [HE.out]; exact RO.out, RB.out⟩
set_option maxRecDepth 100000 in
set_option maxHeartbeats 4000000 in
theorem svInsNode_new (xs : List NodeD) (ha : Asc (·.name) xs) (x : NodeD) (ad : Option Addr) (cap : Nat) (hl : xs.length ≤ 100) (hcap : xs.length ≤ cap) (hh : hasNode xs x.name = false) (w : World) (hx : NodesAt w ad xs) :
    Calls Tryz.prog 112 #[.slice ad xs.length cap, .agg #[.string x.name, .int .i64 x.room, .string x.zone], .func (.func 54) #[] #[]] w fun e w' => ∃ ad' cap', e = .returned (.slice ad' (putL (·.name) x xs).length cap') ∧ w'.ownsRow w.heap.size 40 3 (.slice ad' (putL (·.name) x xs).length cap') (putL (·.name) x xs).length (cNodes (putL (·.name) x xs)) ∧ Below w.heap.size w w' := by
  obtain ⟨W, hW⟩ : ∃ W, w.alloc (.cells #[.string x.name, .int .i64 x.room, .string x.zone] 40) = W := ⟨_, rfl⟩
  have bA := below_one w (.cells #[.string x.name, .int .i64 x.room, .string x.zone] 40)
  have oX := objAt_new w #[.string x.name, .int .i64 x.room, .string x.zone] 40
  rw [hW] at bA oX
  have x0 := objAt_cell oX 0 rfl
  have x1 := objAt_cell oX 1 rfl
  have x2 := objAt_cell oX 2 rfl
  have OX := Lib.hid oX
  have BA := Lib.hid bA
  have HX := Lib.hid hx
  have HA := Lib.hid ha
  have HH := Lib.hid hh
  clear oX bA hx ha
  go_enter Tryz.func112, Tryz.ntmps112
  go_wp2_with fail
  refine (nodeKey_eq x _).mono ?_
  rintro e w2 ⟨rfl, rfl⟩
  have b2 := below_one W (.cells #[.string x.name, .int .i64 x.room, .string x.zone] 40)
  have B2 := below_trans BA.out b2 BA.out.size
  have C1 := svFindNode_is xs HA.out x.name ad cap hl _ (nodesAt_next HX.out B2)
  rw [hh] at C1
  have C1 := Lib.hid C1
  have O2 := Lib.hid (objAt_next OX.out b2)
  have BB2 := Lib.hid B2
  clear b2 B2 hh
  go_wp2_with fail
  refine C1.out.mono ?_
  rintro e w3 ⟨p, rfl, hp, b3⟩
  have o3 := objAt_next O2.out b3
  have B3 := Lib.hid (below_trans BB2.out b3 BB2.out.size)
  have y0 := objAt_cell o3 0 rfl
  have y1 := objAt_cell o3 1 rfl
  have y2 := objAt_cell o3 2 rfl
  have hpl := hp.1
  have hpc : p ≤ cap := Nat.le_trans hpl hcap
  have HP := Lib.hid hp
  have HE := Lib.hid (put_pos_new hp (fun z hz e => by have := (hasNode_iff xs x.name).2 ⟨z, hz, e⟩; rw [HH.out] at this; cases this))
  have hol := objAt_lt o3
  obtain ⟨out, hout⟩ : ∃ out, xs.take p ++ [x] ++ xs.drop (p) = out := ⟨_, rfl⟩
  rw [hout] at HE
  have hlo : out.length ≤ 1000 := by have := put_len2 (·.name) x xs; rw [HE.out] at this; omega
  have C2 := Lib.hid (svCat3Node_is (c := 3) hout hlo (parts3Node w3 x ad xs cap p (p) (nodesAt_next HX.out B3.out) hcap hpl))
  have BB : Hid (Below w.heap.size w (((w3.alloc (.cells #[.string x.name, .int .i64 x.room, .string x.zone] 40)).alloc (.cells #[.slice ad p cap, .slice (some ⟨w3.heap.size, 0, none⟩) 1 1, .slice (if cap = p then ad else Option.map (fun a => a.add ((p) * 3)) ad) (xs.length - (p)) (cap - (p))] 23)).drew)) := ((B3.out.alloc B3.out.size _).alloc (by have s3 := B3.out.size; rw [World.size_alloc]; omega) _).drew
  clear hout o3 b3 hp C1 x0 x1 x2 HX HA HH O2 BB2 HP hlo
  go_wp2_with fail
  go_region_law (first | (go_simp; go_at_call 138; (with_reducible refine C2.out.mono ?_); rintro e v ⟨rad, rcap, rfl, rown, rb⟩))
  all_goals
    have RO := Lib.hid (ownsRow_low rown BB.out.size)
    have RB := Lib.hid (below_trans BB.out rb BB.out.size)
    clear rown rb BB C2 B3
    generalize (if cap = p then ad else Option.map (fun x => x.add ((p) * 3)) ad) = qq
    go_wp2
    go_ret
    exact ⟨rad, rcap, by rw [HE.out]; rfl, by rw [HE.out]; exact RO.out, RB.out⟩

/-! ### Lease -/
theorem oneLeaseAt {L : Nat} {x : LeaseD} {w : World} (o : ObjAt L #[.string x.job, .string x.node, .int .i64 x.til] 42 w) : LeasesAt w (some ⟨L, 0, none⟩) [x] := by
  intro i hi
  obtain rfl : i = 0 := by simpa using hi
  refine ⟨⟨L, 0, none⟩, rfl, objAt_lt o, ?_, ?_, ?_⟩
  · simpa [Addr.add] using objAt_cell o 0 rfl
  · simpa [Addr.add] using objAt_cell o 1 rfl
  · simpa [Addr.add] using objAt_cell o 2 rfl
theorem tailLeaseAt {w : World} {ad : Option Addr} {xs : List LeaseD} {cap k : Nat} (h : LeasesAt w ad xs) (hc : xs.length ≤ cap) : LeasesAt w (if cap = k then ad else Option.map (fun a => a.add (k * 3)) ad) (xs.drop k) := by
  split
  · rw [List.drop_eq_nil_of_le (by omega)]; intro i hi; simp at hi
  · cases ad with
    | none => intro i hi; obtain ⟨a, ha, _⟩ := h 0 (by simp at hi; omega); cases ha
    | some a => exact leasesAt_drop h k
theorem parts3Lease (w : World) (x : LeaseD) (ad : Option Addr) (xs : List LeaseD) (cap p k : Nat) (h : LeasesAt w ad xs) (hc : xs.length ≤ cap) (hp : p ≤ xs.length) : PartsLease (((w.alloc (.cells #[.string x.job, .string x.node, .int .i64 x.til] 42)).alloc (.cells #[.slice ad p cap, .slice (some ⟨w.heap.size, 0, none⟩) 1 1, .slice (if cap = k then ad else Option.map (fun a => a.add (k * 3)) ad) (xs.length - k) (cap - k)] 24)).drew) (w.heap.size + 1) [(ad, xs.take p, cap), (some ⟨w.heap.size, 0, none⟩, [x], 1), (if cap = k then ad else Option.map (fun a => a.add (k * 3)) ad, xs.drop k, cap - k)] := by
  have o1 := objAt_new w #[.string x.job, .string x.node, .int .i64 x.til] 42
  have b1 := below_one w (.cells #[.string x.job, .string x.node, .int .i64 x.til] 42)
  obtain ⟨W1, h1⟩ : ∃ W, w.alloc (.cells #[.string x.job, .string x.node, .int .i64 x.til] 42) = W := ⟨_, rfl⟩
  rw [h1] at o1 b1 ⊢
  have s1 : W1.heap.size = w.heap.size + 1 := by rw [← h1, World.size_alloc]
  obtain ⟨q, hq⟩ : ∃ q, (if cap = k then ad else Option.map (fun a => a.add (k * 3)) ad) = q := ⟨_, rfl⟩
  have ht := tailLeaseAt (k := k) h hc
  rw [hq] at ht ⊢
  have o2 := objAt_new W1 #[.slice ad p cap, .slice (some ⟨w.heap.size, 0, none⟩) 1 1, .slice q (xs.length - k) (cap - k)] 24
  rw [s1] at o2
  have b2 := below_one W1 (.cells #[.slice ad p cap, .slice (some ⟨w.heap.size, 0, none⟩) 1 1, .slice q (xs.length - k) (cap - k)] 24)
  have bb := below_trans b1 b2 b1.size
  obtain ⟨W2, h2⟩ : ∃ W, W1.alloc (.cells #[.slice ad p cap, .slice (some ⟨w.heap.size, 0, none⟩) 1 1, .slice q (xs.length - k) (cap - k)] 24) = W := ⟨_, rfl⟩
  rw [h2] at o2 b2 bb ⊢
  have z : ∀ i, W2.drew.cell? ⟨w.heap.size + 1, i, none⟩ = W2.cell? ⟨w.heap.size + 1, i, none⟩ := fun i => rfl
  refine ⟨objAt_lt (objAt_drew o2), fun i hi => ?_⟩
  have hi : i < 3 := hi
  obtain rfl | rfl | rfl : i = 0 ∨ i = 1 ∨ i = 2 := by omega
  · refine ⟨?_, leasesAt_next (leasesAt_take h p) bb.drew⟩
    show W2.drew.cell? _ = some (.slice ad (xs.take p).length cap)
    rw [z, List.length_take, Nat.min_eq_left hp]; exact objAt_cell o2 0 rfl
  · exact ⟨objAt_cell (objAt_drew o2) 1 rfl, oneLeaseAt (objAt_drew (objAt_next o1 b2))⟩
  · refine ⟨?_, leasesAt_next ht bb.drew⟩
    show W2.drew.cell? _ = some (.slice q (xs.drop k).length (cap - k))
    rw [z, List.length_drop]; exact objAt_cell o2 2 rfl
theorem svCat3Lease_is {a1 a2 a3 : Option Addr} {l1 l2 l3 out : List LeaseD} {c1 c2 c3 ob c : Nat} {w : World} (he : l1 ++ l2 ++ l3 = out) (hl : out.length ≤ 1000) (hx : PartsLease w ob [(a1, l1, c1), (a2, l2, c2), (a3, l3, c3)]) :
    Calls Tryz.prog 173 #[.slice (some ⟨ob, 0, none⟩) 3 c] w fun e w' => ∃ ad cap, e = .returned (.slice ad out.length cap) ∧ w'.ownsRow w.heap.size 42 3 (.slice ad out.length cap) out.length (cLeases out) ∧ Below w.heap.size w w' := by
  have e : catLease [(a1, l1, c1), (a2, l2, c2), (a3, l3, c3)] = out := by rw [← he]; simp [catLease]
  have h := svCatLease_is [(a1, l1, c1), (a2, l2, c2), (a3, l3, c3)] ob c (by rw [e]; exact hl) (by simp) w hx
  rw [e] at h
  exact h
theorem svCat2Lease_is {a1 a2 : Option Addr} {l1 l2 out : List LeaseD} {c1 c2 ob c : Nat} {w : World} (he : l1 ++ l2 = out) (hl : out.length ≤ 1000) (hx : PartsLease w ob [(a1, l1, c1), (a2, l2, c2)]) :
    Calls Tryz.prog 173 #[.slice (some ⟨ob, 0, none⟩) 2 c] w fun e w' => ∃ ad cap, e = .returned (.slice ad out.length cap) ∧ w'.ownsRow w.heap.size 42 3 (.slice ad out.length cap) out.length (cLeases out) ∧ Below w.heap.size w w' := by
  have e : catLease [(a1, l1, c1), (a2, l2, c2)] = out := by rw [← he]; simp [catLease]
  have h := svCatLease_is [(a1, l1, c1), (a2, l2, c2)] ob c (by rw [e]; exact hl) (by simp) w hx
  rw [e] at h
  exact h
set_option maxRecDepth 100000 in
set_option maxHeartbeats 4000000 in
theorem svInsLease_old (xs : List LeaseD) (ha : Asc (·.job) xs) (x : LeaseD) (ad : Option Addr) (cap : Nat) (hl : xs.length ≤ 100) (hcap : xs.length ≤ cap) (hh : hasLease xs x.job = true) (w : World) (hx : LeasesAt w ad xs) :
    Calls Tryz.prog 143 #[.slice ad xs.length cap, .agg #[.string x.job, .string x.node, .int .i64 x.til], .func (.func 58) #[] #[]] w fun e w' => ∃ ad' cap', e = .returned (.slice ad' (putL (·.job) x xs).length cap') ∧ w'.ownsRow w.heap.size 42 3 (.slice ad' (putL (·.job) x xs).length cap') (putL (·.job) x xs).length (cLeases (putL (·.job) x xs)) ∧ Below w.heap.size w w' := by
  obtain ⟨W, hW⟩ : ∃ W, w.alloc (.cells #[.string x.job, .string x.node, .int .i64 x.til] 42) = W := ⟨_, rfl⟩
  have bA := below_one w (.cells #[.string x.job, .string x.node, .int .i64 x.til] 42)
  have oX := objAt_new w #[.string x.job, .string x.node, .int .i64 x.til] 42
  rw [hW] at bA oX
  have x0 := objAt_cell oX 0 rfl
  have x1 := objAt_cell oX 1 rfl
  have x2 := objAt_cell oX 2 rfl
  have OX := Lib.hid oX
  have BA := Lib.hid bA
  have HX := Lib.hid hx
  have HA := Lib.hid ha
  have HH := Lib.hid hh
  clear oX bA hx ha
  go_enter Tryz.func143, Tryz.ntmps143
  go_wp2_with fail
  refine (leaseKey_eq x _).mono ?_
  rintro e w2 ⟨rfl, rfl⟩
  have b2 := below_one W (.cells #[.string x.job, .string x.node, .int .i64 x.til] 42)
  have B2 := below_trans BA.out b2 BA.out.size
  have C1 := svFindLease_is xs HA.out x.job ad cap hl _ (leasesAt_next HX.out B2)
  rw [hh] at C1
  have C1 := Lib.hid C1
  have O2 := Lib.hid (objAt_next OX.out b2)
  have BB2 := Lib.hid B2
  clear b2 B2 hh
  go_wp2_with fail
  refine C1.out.mono ?_
  rintro e w3 ⟨p, rfl, hp, b3⟩
  have o3 := objAt_next O2.out b3
  have B3 := Lib.hid (below_trans BB2.out b3 BB2.out.size)
  have y0 := objAt_cell o3 0 rfl
  have y1 := objAt_cell o3 1 rfl
  have y2 := objAt_cell o3 2 rfl
  have hpl := hp.1
  have hpc : p ≤ cap := Nat.le_trans hpl hcap
  have HP := Lib.hid hp
  obtain ⟨hpp, hpe⟩ := pos_has HA.out hp ((hasLease_iff xs x.job).1 HH.out)
  have HE := Lib.hid (put_pos_old HA.out hp ((hasLease_iff xs x.job).1 HH.out))
  have hp1 : (0 : Int) ≤ (p : Int) + 1 ∧ (p : Int) + 1 ≤ (xs.length : Int) := ⟨by omega, by omega⟩
  obtain ⟨hp1, hp2⟩ := hp1
  clear hpe
  have hol := objAt_lt o3
  obtain ⟨out, hout⟩ : ∃ out, xs.take p ++ [x] ++ xs.drop (p + 1) = out := ⟨_, rfl⟩
  rw [hout] at HE
  have hlo : out.length ≤ 1000 := by have := put_len2 (·.job) x xs; rw [HE.out] at this; omega
  have C2 := Lib.hid (svCat3Lease_is (c := 3) hout hlo (parts3Lease w3 x ad xs cap p (p + 1) (leasesAt_next HX.out B3.out) hcap hpl))
  have BB : Hid (Below w.heap.size w (((w3.alloc (.cells #[.string x.job, .string x.node, .int .i64 x.til] 42)).alloc (.cells #[.slice ad p cap, .slice (some ⟨w3.heap.size, 0, none⟩) 1 1, .slice (if cap = p + 1 then ad else Option.map (fun a => a.add ((p + 1) * 3)) ad) (xs.length - (p + 1)) (cap - (p + 1))] 24)).drew)) := ((B3.out.alloc B3.out.size _).alloc (by have s3 := B3.out.size; rw [World.size_alloc]; omega) _).drew
  clear hout o3 b3 hp C1 x0 x1 x2 HX HA HH O2 BB2 HP hlo
  go_wp2_with fail
  go_region_law (first | (go_simp; go_at_call 173; (with_reducible refine C2.out.mono ?_); rintro e v ⟨rad, rcap, rfl, rown, rb⟩))
  all_goals
    have RO := Lib.hid (ownsRow_low rown BB.out.size)
    have RB := Lib.hid (below_trans BB.out rb BB.out.size)
    clear rown rb BB C2 B3
    generalize (if cap = p + 1 then ad else Option.map (fun x => x.add ((p + 1) * 3)) ad) = qq
    go_wp2
    go_ret
    exact ⟨rad, rcap, by rw [HE.out]; rfl, by rw [HE.out]; exact RO.out, RB.out⟩
set_option maxRecDepth 100000 in
set_option maxHeartbeats 4000000 in
theorem svInsLease_new (xs : List LeaseD) (ha : Asc (·.job) xs) (x : LeaseD) (ad : Option Addr) (cap : Nat) (hl : xs.length ≤ 100) (hcap : xs.length ≤ cap) (hh : hasLease xs x.job = false) (w : World) (hx : LeasesAt w ad xs) :
    Calls Tryz.prog 143 #[.slice ad xs.length cap, .agg #[.string x.job, .string x.node, .int .i64 x.til], .func (.func 58) #[] #[]] w fun e w' => ∃ ad' cap', e = .returned (.slice ad' (putL (·.job) x xs).length cap') ∧ w'.ownsRow w.heap.size 42 3 (.slice ad' (putL (·.job) x xs).length cap') (putL (·.job) x xs).length (cLeases (putL (·.job) x xs)) ∧ Below w.heap.size w w' := by
  obtain ⟨W, hW⟩ : ∃ W, w.alloc (.cells #[.string x.job, .string x.node, .int .i64 x.til] 42) = W := ⟨_, rfl⟩
  have bA := below_one w (.cells #[.string x.job, .string x.node, .int .i64 x.til] 42)
  have oX := objAt_new w #[.string x.job, .string x.node, .int .i64 x.til] 42
  rw [hW] at bA oX
  have x0 := objAt_cell oX 0 rfl
  have x1 := objAt_cell oX 1 rfl
  have x2 := objAt_cell oX 2 rfl
  have OX := Lib.hid oX
  have BA := Lib.hid bA
  have HX := Lib.hid hx
  have HA := Lib.hid ha
  have HH := Lib.hid hh
  clear oX bA hx ha
  go_enter Tryz.func143, Tryz.ntmps143
  go_wp2_with fail
  refine (leaseKey_eq x _).mono ?_
  rintro e w2 ⟨rfl, rfl⟩
  have b2 := below_one W (.cells #[.string x.job, .string x.node, .int .i64 x.til] 42)
  have B2 := below_trans BA.out b2 BA.out.size
  have C1 := svFindLease_is xs HA.out x.job ad cap hl _ (leasesAt_next HX.out B2)
  rw [hh] at C1
  have C1 := Lib.hid C1
  have O2 := Lib.hid (objAt_next OX.out b2)
  have BB2 := Lib.hid B2
  clear b2 B2 hh
  go_wp2_with fail
  refine C1.out.mono ?_
  rintro e w3 ⟨p, rfl, hp, b3⟩
  have o3 := objAt_next O2.out b3
  have B3 := Lib.hid (below_trans BB2.out b3 BB2.out.size)
  have y0 := objAt_cell o3 0 rfl
  have y1 := objAt_cell o3 1 rfl
  have y2 := objAt_cell o3 2 rfl
  have hpl := hp.1
  have hpc : p ≤ cap := Nat.le_trans hpl hcap
  have HP := Lib.hid hp
  have HE := Lib.hid (put_pos_new hp (fun z hz e => by have := (hasLease_iff xs x.job).2 ⟨z, hz, e⟩; rw [HH.out] at this; cases this))
  have hol := objAt_lt o3
  obtain ⟨out, hout⟩ : ∃ out, xs.take p ++ [x] ++ xs.drop (p) = out := ⟨_, rfl⟩
  rw [hout] at HE
  have hlo : out.length ≤ 1000 := by have := put_len2 (·.job) x xs; rw [HE.out] at this; omega
  have C2 := Lib.hid (svCat3Lease_is (c := 3) hout hlo (parts3Lease w3 x ad xs cap p (p) (leasesAt_next HX.out B3.out) hcap hpl))
  have BB : Hid (Below w.heap.size w (((w3.alloc (.cells #[.string x.job, .string x.node, .int .i64 x.til] 42)).alloc (.cells #[.slice ad p cap, .slice (some ⟨w3.heap.size, 0, none⟩) 1 1, .slice (if cap = p then ad else Option.map (fun a => a.add ((p) * 3)) ad) (xs.length - (p)) (cap - (p))] 24)).drew)) := ((B3.out.alloc B3.out.size _).alloc (by have s3 := B3.out.size; rw [World.size_alloc]; omega) _).drew
  clear hout o3 b3 hp C1 x0 x1 x2 HX HA HH O2 BB2 HP hlo
  go_wp2_with fail
  go_region_law (first | (go_simp; go_at_call 173; (with_reducible refine C2.out.mono ?_); rintro e v ⟨rad, rcap, rfl, rown, rb⟩))
  all_goals
    have RO := Lib.hid (ownsRow_low rown BB.out.size)
    have RB := Lib.hid (below_trans BB.out rb BB.out.size)
    clear rown rb BB C2 B3
    generalize (if cap = p then ad else Option.map (fun x => x.add ((p) * 3)) ad) = qq
    go_wp2
    go_ret
    exact ⟨rad, rcap, by rw [HE.out]; rfl, by rw [HE.out]; exact RO.out, RB.out⟩
end Go.Proofs.YthpgkfonbmffdaaGreatDoor
