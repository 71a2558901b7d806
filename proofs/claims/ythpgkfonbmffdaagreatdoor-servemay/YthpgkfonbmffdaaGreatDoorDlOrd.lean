/- Rows collected out of a table, sorted by their keys. -/
import Derived.Test.YthpgkfonbmffdaaGreatDoorDlCmp
import Derived.Test.YthpgkfonbmffdaaGreatDoorPkWi4
namespace Go.Proofs.YthpgkfonbmffdaaGreatDoor
open Go.RowKit Go.Shelf

theorem flatJob (l : List JobD) : (Sort.flatK cJob 5 l.toArray).toList = cJobs l := by
  apply List.ext_getElem?
  intro t
  by_cases ht : t < l.length * 5
  · have h1 : t / 5 < l.length := by omega
    have h2 : t % 5 < 5 := Nat.mod_lt _ (by omega)
    have h3 := cJobs_at l (t / 5) h1 (t % 5) h2
    have e : t / 5 * 5 + t % 5 = t := by omega
    rw [e] at h3
    rw [h3, Array.getElem?_toList]
    have h4 : t < (Sort.flatK cJob 5 l.toArray).size := by rw [Sort.size_flatK]; simpa using ht
    rw [Array.getElem?_eq_getElem h4]
    have h5 := Sort.get_flatK cJob 5 l.toArray t (by simpa using ht)
    rw [getElem!_pos _ t h4] at h5
    rw [h5]
    have h6 : l.toArray[t / 5]! = l[t / 5] := by rw [getElem!_pos _ _ (by simpa using h1)]; simp
    rw [h6]
    have h7 : t % 5 < (cJob l[t / 5]).length := h2
    rw [getElem!_pos (cJob l[t / 5]) (t % 5) h7, List.getElem?_eq_getElem h7]
  · rw [List.getElem?_eq_none (by rw [Array.length_toList, Sort.size_flatK]; simp; omega), List.getElem?_eq_none (by rw [cJobs_length]; omega)]
theorem cell_sortJob {w : World} {g m kb : Nat} {d : Array JobD} {os : Array Obj} {v : Value} (h : w.cell? ⟨kb, 0, none⟩ = some v) (hl : kb < w.heap.size) (hne : kb ≠ g) : (sortWorldK cJob 5 w g 0 m d os).cell? ⟨kb, 0, none⟩ = some v ∧ kb < (sortWorldK cJob 5 w g 0 m d os).heap.size := by
  have hg : w.grownBy (sortWorldK cJob 5 w g 0 m d os) (some g) := grown_put _
  refine ⟨?_, Nat.lt_of_lt_of_le hl hg.size⟩
  have hb := hg.block kb hl (by simpa using hne)
  unfold World.cell? at h ⊢
  rw [show (sortWorldK cJob 5 w g 0 m d os).heap[(⟨kb, 0, none⟩ : Addr).block]? = w.heap[kb]? from hb]
  exact h
set_option maxRecDepth 100000 in
theorem sortJob_is (kb g cap base : Nat) (xs : List JobD) (w : World) (hrow : w.ownsRow base 38 5 (.slice (some ⟨g, 0, none⟩) xs.length cap) xs.length (cJobs xs)) (hk : w.cell? ⟨kb, 0, none⟩ = some (.func (.func 51) #[] #[])) (hkl : kb < w.heap.size) (hne : kb ≠ g) (hx : xs.length ≤ 1000) :
    Calls Tryz.prog 154 #[.slice (some ⟨g, 0, none⟩) xs.length cap, .func (.func 124) #[] #[.pointer (some ⟨kb, 0, none⟩)]] w fun e w' => e = .returned (.tuple #[]) ∧ ∃ ys : List JobD, ys.Perm xs ∧ ys.Pairwise (fun a b => ¬ lt b.name a.name) ∧ w'.ownsRow base 38 5 (.slice (some ⟨g, 0, none⟩) xs.length cap) xs.length (cJobs ys) ∧ w.grownBy w' (some g) := by
  rcases hrow.2 with ⟨hv, _⟩ | ⟨g', cap', cur, hv, hbg, hgc, hnc, hcm, hcs, htk⟩
  · cases hv
  · cases hv
    have hF : (Sort.flatK cJob 5 xs.toArray).size = xs.length * 5 := by rw [Sort.size_flatK]; simp
    have hH : Sort.HoldsK cJob 5 w g 0 xs.toArray := holds_put hgc (by rw [hF, flatJob]; exact htk)
    have eg : ∀ args w, (callFunc 124 args).run Tryz.prog w = .ok (.enter 124 args) w := enters_of Tryz.func124 (by kernel_rfl) rfl
    have hcon := AnyQ.slices_SortFunc Tryz.laySortJob 5 Tryz.isAgg38 Tryz.sizeOf38 cJob (fun _ => rfl) (fun x v hv => job_ones x v hv) (cmpK (·.name)) (cmpK_swo _) 124 #[.pointer (some ⟨kb, 0, none⟩)] g 0 cap xs.toArray w eg
      (fun m os dk _ x y => cmpJob_is x y kb _ (cell_sortJob hk hkl hne).1 (cell_sortJob hk hkl hne).2) hH (Array.getElem?_eq_some_iff.1 hgc).1 (by simp; omega)
    have hs : xs.toArray.size = xs.length := by simp
    rw [hs] at hcon
    refine hcon.mono ?_
    rintro e w' ⟨rfl, d', n, os, hp, hsd, rfl⟩
    rw [← hs] at hp hsd
    obtain ⟨p1, p2⟩ := perm_in hp
    have e1 : d'.toList.toArray = d' := by simp
    rw [← p2] at hsd
    have hl : d'.size = xs.length := by rw [p2, hs]
    refine ⟨rfl, d'.toList, by simpa using p1, sorted_pair hsd, ?_, grown_put _⟩
    have hf := flatJob d'.toList
    rw [e1] at hf
    exact own_put hf (by rw [Sort.size_flatK, hl]) hbg hgc hnc hcm hcs
theorem sortJob_none (fv : Value) (w : World) : Calls Tryz.prog 154 #[.slice none 0 0, fv] w fun e w' => e = .returned (.tuple #[]) ∧ w' = w :=
  AnyF.slices_SortFunc_none { Tryz.laySortJob with } none 0 fv w
set_option maxRecDepth 100000 in
theorem srdJob_is (kb Bm b nn : Nat) (D0 : DataW Value) (rows : List JobD) (hl : Asc (·.name) rows) (hD : ∀ s : ByteArray, Maps.has D0 (keyL s) = (tabF (·.name) jobV rows s).isSome ∧ ∀ z, D0.atKey (keyL s) (.held z) = .held ((tabF (·.name) jobV rows s).getD z)) (hnn : nn ≤ 1000) (hr : rows.length ≤ 1000) (w : World) (hBm : Bm < w.heap.size)
    (hm : w.cell? ⟨Bm, 0, none⟩ = some (.map (some b))) (hown : w.ownsMap Tryz.prog 9 selfE b nn D0) (hk : w.cell? ⟨kb, 0, none⟩ = some (.func (.func 51) #[] #[])) (hkl : kb < w.heap.size) :
    Calls Tryz.prog 122 #[.func (.func 155) #[] #[.pointer (some ⟨Bm, 0, none⟩)], .func (.func 124) #[] #[.pointer (some ⟨kb, 0, none⟩)]] w fun e w' => ∃ ad cap, e = .returned (.slice ad rows.length cap) ∧ w'.ownsRow w.heap.size 38 5 (.slice ad rows.length cap) rows.length (cJobs rows) ∧ Below w.heap.size w w' := by
  have HA := Lib.hid (colJob_is Bm b nn D0 rows hl hD hnn w hBm hm hown)
  have HL := Lib.hid hl
  clear hl hD hm hown
  go_enter Tryz.func122, Tryz.ntmps122
  go_wp2_with fail
  refine HA.out.mono ?_
  rintro e w1 ⟨v, xs, rfl, hp, hown, hb⟩
  have HN := Lib.hid hp.length_eq
  have hx1 : xs.length ≤ 1000 := by rw [HN.out]; exact hr
  have hk1 : w1.cell? ⟨kb, 0, none⟩ = some (.func (.func 51) #[] #[]) := by rw [hb.cell (p := ⟨kb, 0, none⟩) hkl]; exact hk
  have hkl1 : kb < w1.heap.size := Nat.lt_of_lt_of_le hkl hb.size
  have HP := Lib.hid hp
  have HB := Lib.hid hb
  clear HA hk hb
  rcases hown.2 with ⟨rfl, h0⟩ | ⟨g, cap, cur, rfl, hbg, _⟩
  · have hr0 : rows = [] := List.eq_nil_of_length_eq_zero (by rw [← HN.out]; exact h0)
    have HO := Lib.hid (World.ownsRow_nil w1 w.heap.size 38 5)
    have HS := Lib.hid (sortJob_none (.func (.func 124) #[] #[.pointer (some ⟨kb, 0, none⟩)]) w1)
    clear hown hp hk1
    go_wp2_with fail
    refine HS.out.mono ?_
    rintro e w2 ⟨rfl, rfl⟩
    go_wp2
    go_ret
    refine ⟨none, 0, by rw [hr0]; rfl, ?_, HB.out⟩
    rw [hr0]
    exact HO.out
  · have HS := Lib.hid (sortJob_is kb g cap w.heap.size xs w1 hown hk1 hkl1 (by omega) hx1)
    clear hown hp hk1
    go_wp2_with fail
    refine HS.out.mono ?_
    rintro e w2 ⟨rfl, ys, hy1, hy2, hy3, hy4⟩
    have hys : ys = rows := sorted_is HL.out (hy1.trans HP.out) hy2
    subst hys
    have HY := Lib.hid hy3
    have HG := Lib.hid (HB.out.grown hy4 HB.out.size (fun k e => by cases e; exact hbg))
    clear hy1 hy2 hy3 hy4 HS
    go_wp2
    go_ret
    exact ⟨some ⟨g, 0, none⟩, cap, by rw [← HN.out]; rfl, by rw [← HN.out]; exact HY.out, HG.out⟩
set_option maxRecDepth 100000 in
theorem inoJob_is (b nn : Nat) (rows : List JobD) (hl : Asc (·.name) rows) (hnn : nn ≤ 1000) (hr : rows.length ≤ 1000) (w : World) (hM : MapAt w b nn (tabF (·.name) jobV rows)) :
    Calls Tryz.prog 102 #[.map (some b), .func (.func 51) #[] #[]] w fun e w' => ∃ ad cap, e = .returned (.slice ad rows.length cap) ∧ w'.ownsRow w.heap.size 38 5 (.slice ad rows.length cap) rows.length (cJobs rows) ∧ Below w.heap.size w w' := by
  obtain ⟨W, hW⟩ : ∃ W, w.alloc (.cells #[.func (.func 51) #[] #[]] 91) = W := ⟨_, rfl⟩
  obtain ⟨W2, hW2⟩ : ∃ W2, W.alloc (.cells #[.map (some b)] 95) = W2 := ⟨_, rfl⟩
  have b1 : Below w.heap.size w W := by rw [← hW]; exact below_one _ _
  have s1 : W.heap.size = w.heap.size + 1 := by rw [← hW, World.size_alloc]
  have b2 : Below W.heap.size W W2 := by rw [← hW2]; exact below_one _ _
  have s2 : W2.heap.size = w.heap.size + 2 := by rw [← hW2, World.size_alloc, s1]
  have B2 : Below w.heap.size w W2 := below_trans b1 b2 b1.size
  have o1 : ObjAt w.heap.size #[.func (.func 51) #[] #[]] 91 W := by rw [← hW]; exact objAt_new w _ _
  have o2 : ObjAt (w.heap.size + 1) #[.map (some b)] 95 W2 := by rw [← hW2, ← s1]; exact objAt_new W _ _
  have k2 := objAt_cell (objAt_next o1 b2) 0 rfl
  have m2 := objAt_cell o2 0 rfl
  obtain ⟨D0, hown, hD⟩ := mapAt_below hM B2
  have HV := valJob_is (some b) W
  rw [hW2, s1] at HV
  have HV := Lib.hid HV
  have HS := Lib.hid (srdJob_is w.heap.size (w.heap.size + 1) b nn D0 rows hl hD hnn hr W2 (by omega) m2 hown k2 (by omega))
  have HB := Lib.hid B2
  have HW := Lib.hid hW
  have hs2 := Lib.hid s2
  clear hW hW2 hM hown hD b1 b2 o1 o2 k2 m2 hl B2 s1 s2
  go_enter Tryz.func102, Tryz.ntmps102
  go_wp2_with fail
  rw [HW.out]
  refine HV.out.mono ?_
  rintro e w1 ⟨rfl, rfl⟩
  go_wp2_with fail
  refine HS.out.mono ?_
  rintro e w3 ⟨ad, cap, rfl, h1, h2⟩
  have h1' := ownsRow_low (B' := w.heap.size) h1 (by have := hs2.out; omega)
  have h2' := below_trans HB.out h2 HB.out.size
  clear h1 h2
  go_wp2
  go_ret
  exact ⟨ad, cap, rfl, h1', h2'⟩

theorem flatNode (l : List NodeD) : (Sort.flatK cNode 3 l.toArray).toList = cNodes l := by
  apply List.ext_getElem?
  intro t
  by_cases ht : t < l.length * 3
  · have h1 : t / 3 < l.length := by omega
    have h2 : t % 3 < 3 := Nat.mod_lt _ (by omega)
    have h3 := cNodes_at l (t / 3) h1 (t % 3) h2
    have e : t / 3 * 3 + t % 3 = t := by omega
    rw [e] at h3
    rw [h3, Array.getElem?_toList]
    have h4 : t < (Sort.flatK cNode 3 l.toArray).size := by rw [Sort.size_flatK]; simpa using ht
    rw [Array.getElem?_eq_getElem h4]
    have h5 := Sort.get_flatK cNode 3 l.toArray t (by simpa using ht)
    rw [getElem!_pos _ t h4] at h5
    rw [h5]
    have h6 : l.toArray[t / 3]! = l[t / 3] := by rw [getElem!_pos _ _ (by simpa using h1)]; simp
    rw [h6]
    have h7 : t % 3 < (cNode l[t / 3]).length := h2
    rw [getElem!_pos (cNode l[t / 3]) (t % 3) h7, List.getElem?_eq_getElem h7]
  · rw [List.getElem?_eq_none (by rw [Array.length_toList, Sort.size_flatK]; simp; omega), List.getElem?_eq_none (by rw [cNodes_length]; omega)]
theorem cell_sortNode {w : World} {g m kb : Nat} {d : Array NodeD} {os : Array Obj} {v : Value} (h : w.cell? ⟨kb, 0, none⟩ = some v) (hl : kb < w.heap.size) (hne : kb ≠ g) : (sortWorldK cNode 3 w g 0 m d os).cell? ⟨kb, 0, none⟩ = some v ∧ kb < (sortWorldK cNode 3 w g 0 m d os).heap.size := by
  have hg : w.grownBy (sortWorldK cNode 3 w g 0 m d os) (some g) := grown_put _
  refine ⟨?_, Nat.lt_of_lt_of_le hl hg.size⟩
  have hb := hg.block kb hl (by simpa using hne)
  unfold World.cell? at h ⊢
  rw [show (sortWorldK cNode 3 w g 0 m d os).heap[(⟨kb, 0, none⟩ : Addr).block]? = w.heap[kb]? from hb]
  exact h
set_option maxRecDepth 100000 in
theorem sortNode_is (kb g cap base : Nat) (xs : List NodeD) (w : World) (hrow : w.ownsRow base 40 3 (.slice (some ⟨g, 0, none⟩) xs.length cap) xs.length (cNodes xs)) (hk : w.cell? ⟨kb, 0, none⟩ = some (.func (.func 54) #[] #[])) (hkl : kb < w.heap.size) (hne : kb ≠ g) (hx : xs.length ≤ 1000) :
    Calls Tryz.prog 158 #[.slice (some ⟨g, 0, none⟩) xs.length cap, .func (.func 128) #[] #[.pointer (some ⟨kb, 0, none⟩)]] w fun e w' => e = .returned (.tuple #[]) ∧ ∃ ys : List NodeD, ys.Perm xs ∧ ys.Pairwise (fun a b => ¬ lt b.name a.name) ∧ w'.ownsRow base 40 3 (.slice (some ⟨g, 0, none⟩) xs.length cap) xs.length (cNodes ys) ∧ w.grownBy w' (some g) := by
  rcases hrow.2 with ⟨hv, _⟩ | ⟨g', cap', cur, hv, hbg, hgc, hnc, hcm, hcs, htk⟩
  · cases hv
  · cases hv
    have hF : (Sort.flatK cNode 3 xs.toArray).size = xs.length * 3 := by rw [Sort.size_flatK]; simp
    have hH : Sort.HoldsK cNode 3 w g 0 xs.toArray := holds_put hgc (by rw [hF, flatNode]; exact htk)
    have eg : ∀ args w, (callFunc 128 args).run Tryz.prog w = .ok (.enter 128 args) w := enters_of Tryz.func128 (by kernel_rfl) rfl
    have hcon := AnyQ.slices_SortFunc Tryz.laySortNode 3 Tryz.isAgg40 Tryz.sizeOf40 cNode (fun _ => rfl) (fun x v hv => node_ones x v hv) (cmpK (·.name)) (cmpK_swo _) 128 #[.pointer (some ⟨kb, 0, none⟩)] g 0 cap xs.toArray w eg
      (fun m os dk _ x y => cmpNode_is x y kb _ (cell_sortNode hk hkl hne).1 (cell_sortNode hk hkl hne).2) hH (Array.getElem?_eq_some_iff.1 hgc).1 (by simp; omega)
    have hs : xs.toArray.size = xs.length := by simp
    rw [hs] at hcon
    refine hcon.mono ?_
    rintro e w' ⟨rfl, d', n, os, hp, hsd, rfl⟩
    rw [← hs] at hp hsd
    obtain ⟨p1, p2⟩ := perm_in hp
    have e1 : d'.toList.toArray = d' := by simp
    rw [← p2] at hsd
    have hl : d'.size = xs.length := by rw [p2, hs]
    refine ⟨rfl, d'.toList, by simpa using p1, sorted_pair hsd, ?_, grown_put _⟩
    have hf := flatNode d'.toList
    rw [e1] at hf
    exact own_put hf (by rw [Sort.size_flatK, hl]) hbg hgc hnc hcm hcs
theorem sortNode_none (fv : Value) (w : World) : Calls Tryz.prog 158 #[.slice none 0 0, fv] w fun e w' => e = .returned (.tuple #[]) ∧ w' = w :=
  AnyF.slices_SortFunc_none { Tryz.laySortNode with } none 0 fv w
set_option maxRecDepth 100000 in
theorem srdNode_is (kb Bm b nn : Nat) (D0 : DataW Value) (rows : List NodeD) (hl : Asc (·.name) rows) (hD : ∀ s : ByteArray, Maps.has D0 (keyL s) = (tabF (·.name) nodeV rows s).isSome ∧ ∀ z, D0.atKey (keyL s) (.held z) = .held ((tabF (·.name) nodeV rows s).getD z)) (hnn : nn ≤ 1000) (hr : rows.length ≤ 1000) (w : World) (hBm : Bm < w.heap.size)
    (hm : w.cell? ⟨Bm, 0, none⟩ = some (.map (some b))) (hown : w.ownsMap Tryz.prog 9 selfE b nn D0) (hk : w.cell? ⟨kb, 0, none⟩ = some (.func (.func 54) #[] #[])) (hkl : kb < w.heap.size) :
    Calls Tryz.prog 126 #[.func (.func 159) #[] #[.pointer (some ⟨Bm, 0, none⟩)], .func (.func 128) #[] #[.pointer (some ⟨kb, 0, none⟩)]] w fun e w' => ∃ ad cap, e = .returned (.slice ad rows.length cap) ∧ w'.ownsRow w.heap.size 40 3 (.slice ad rows.length cap) rows.length (cNodes rows) ∧ Below w.heap.size w w' := by
  have HA := Lib.hid (colNode_is Bm b nn D0 rows hl hD hnn w hBm hm hown)
  have HL := Lib.hid hl
  clear hl hD hm hown
  go_enter Tryz.func126, Tryz.ntmps126
  go_wp2_with fail
  refine HA.out.mono ?_
  rintro e w1 ⟨v, xs, rfl, hp, hown, hb⟩
  have HN := Lib.hid hp.length_eq
  have hx1 : xs.length ≤ 1000 := by rw [HN.out]; exact hr
  have hk1 : w1.cell? ⟨kb, 0, none⟩ = some (.func (.func 54) #[] #[]) := by rw [hb.cell (p := ⟨kb, 0, none⟩) hkl]; exact hk
  have hkl1 : kb < w1.heap.size := Nat.lt_of_lt_of_le hkl hb.size
  have HP := Lib.hid hp
  have HB := Lib.hid hb
  clear HA hk hb
  rcases hown.2 with ⟨rfl, h0⟩ | ⟨g, cap, cur, rfl, hbg, _⟩
  · have hr0 : rows = [] := List.eq_nil_of_length_eq_zero (by rw [← HN.out]; exact h0)
    have HO := Lib.hid (World.ownsRow_nil w1 w.heap.size 40 3)
    have HS := Lib.hid (sortNode_none (.func (.func 128) #[] #[.pointer (some ⟨kb, 0, none⟩)]) w1)
    clear hown hp hk1
    go_wp2_with fail
    refine HS.out.mono ?_
    rintro e w2 ⟨rfl, rfl⟩
    go_wp2
    go_ret
    refine ⟨none, 0, by rw [hr0]; rfl, ?_, HB.out⟩
    rw [hr0]
    exact HO.out
  · have HS := Lib.hid (sortNode_is kb g cap w.heap.size xs w1 hown hk1 hkl1 (by omega) hx1)
    clear hown hp hk1
    go_wp2_with fail
    refine HS.out.mono ?_
    rintro e w2 ⟨rfl, ys, hy1, hy2, hy3, hy4⟩
    have hys : ys = rows := sorted_is HL.out (hy1.trans HP.out) hy2
    subst hys
    have HY := Lib.hid hy3
    have HG := Lib.hid (HB.out.grown hy4 HB.out.size (fun k e => by cases e; exact hbg))
    clear hy1 hy2 hy3 hy4 HS
    go_wp2
    go_ret
    exact ⟨some ⟨g, 0, none⟩, cap, by rw [← HN.out]; rfl, by rw [← HN.out]; exact HY.out, HG.out⟩
set_option maxRecDepth 100000 in
theorem inoNode_is (b nn : Nat) (rows : List NodeD) (hl : Asc (·.name) rows) (hnn : nn ≤ 1000) (hr : rows.length ≤ 1000) (w : World) (hM : MapAt w b nn (tabF (·.name) nodeV rows)) :
    Calls Tryz.prog 104 #[.map (some b), .func (.func 54) #[] #[]] w fun e w' => ∃ ad cap, e = .returned (.slice ad rows.length cap) ∧ w'.ownsRow w.heap.size 40 3 (.slice ad rows.length cap) rows.length (cNodes rows) ∧ Below w.heap.size w w' := by
  obtain ⟨W, hW⟩ : ∃ W, w.alloc (.cells #[.func (.func 54) #[] #[]] 94) = W := ⟨_, rfl⟩
  obtain ⟨W2, hW2⟩ : ∃ W2, W.alloc (.cells #[.map (some b)] 96) = W2 := ⟨_, rfl⟩
  have b1 : Below w.heap.size w W := by rw [← hW]; exact below_one _ _
  have s1 : W.heap.size = w.heap.size + 1 := by rw [← hW, World.size_alloc]
  have b2 : Below W.heap.size W W2 := by rw [← hW2]; exact below_one _ _
  have s2 : W2.heap.size = w.heap.size + 2 := by rw [← hW2, World.size_alloc, s1]
  have B2 : Below w.heap.size w W2 := below_trans b1 b2 b1.size
  have o1 : ObjAt w.heap.size #[.func (.func 54) #[] #[]] 94 W := by rw [← hW]; exact objAt_new w _ _
  have o2 : ObjAt (w.heap.size + 1) #[.map (some b)] 96 W2 := by rw [← hW2, ← s1]; exact objAt_new W _ _
  have k2 := objAt_cell (objAt_next o1 b2) 0 rfl
  have m2 := objAt_cell o2 0 rfl
  obtain ⟨D0, hown, hD⟩ := mapAt_below hM B2
  have HV := valNode_is (some b) W
  rw [hW2, s1] at HV
  have HV := Lib.hid HV
  have HS := Lib.hid (srdNode_is w.heap.size (w.heap.size + 1) b nn D0 rows hl hD hnn hr W2 (by omega) m2 hown k2 (by omega))
  have HB := Lib.hid B2
  have HW := Lib.hid hW
  have hs2 := Lib.hid s2
  clear hW hW2 hM hown hD b1 b2 o1 o2 k2 m2 hl B2 s1 s2
  go_enter Tryz.func104, Tryz.ntmps104
  go_wp2_with fail
  rw [HW.out]
  refine HV.out.mono ?_
  rintro e w1 ⟨rfl, rfl⟩
  go_wp2_with fail
  refine HS.out.mono ?_
  rintro e w3 ⟨ad, cap, rfl, h1, h2⟩
  have h1' := ownsRow_low (B' := w.heap.size) h1 (by have := hs2.out; omega)
  have h2' := below_trans HB.out h2 HB.out.size
  clear h1 h2
  go_wp2
  go_ret
  exact ⟨ad, cap, rfl, h1', h2'⟩

theorem flatLease (l : List LeaseD) : (Sort.flatK cLease 3 l.toArray).toList = cLeases l := by
  apply List.ext_getElem?
  intro t
  by_cases ht : t < l.length * 3
  · have h1 : t / 3 < l.length := by omega
    have h2 : t % 3 < 3 := Nat.mod_lt _ (by omega)
    have h3 := cLeases_at l (t / 3) h1 (t % 3) h2
    have e : t / 3 * 3 + t % 3 = t := by omega
    rw [e] at h3
    rw [h3, Array.getElem?_toList]
    have h4 : t < (Sort.flatK cLease 3 l.toArray).size := by rw [Sort.size_flatK]; simpa using ht
    rw [Array.getElem?_eq_getElem h4]
    have h5 := Sort.get_flatK cLease 3 l.toArray t (by simpa using ht)
    rw [getElem!_pos _ t h4] at h5
    rw [h5]
    have h6 : l.toArray[t / 3]! = l[t / 3] := by rw [getElem!_pos _ _ (by simpa using h1)]; simp
    rw [h6]
    have h7 : t % 3 < (cLease l[t / 3]).length := h2
    rw [getElem!_pos (cLease l[t / 3]) (t % 3) h7, List.getElem?_eq_getElem h7]
  · rw [List.getElem?_eq_none (by rw [Array.length_toList, Sort.size_flatK]; simp; omega), List.getElem?_eq_none (by rw [cLeases_length]; omega)]
theorem cell_sortLease {w : World} {g m kb : Nat} {d : Array LeaseD} {os : Array Obj} {v : Value} (h : w.cell? ⟨kb, 0, none⟩ = some v) (hl : kb < w.heap.size) (hne : kb ≠ g) : (sortWorldK cLease 3 w g 0 m d os).cell? ⟨kb, 0, none⟩ = some v ∧ kb < (sortWorldK cLease 3 w g 0 m d os).heap.size := by
  have hg : w.grownBy (sortWorldK cLease 3 w g 0 m d os) (some g) := grown_put _
  refine ⟨?_, Nat.lt_of_lt_of_le hl hg.size⟩
  have hb := hg.block kb hl (by simpa using hne)
  unfold World.cell? at h ⊢
  rw [show (sortWorldK cLease 3 w g 0 m d os).heap[(⟨kb, 0, none⟩ : Addr).block]? = w.heap[kb]? from hb]
  exact h
set_option maxRecDepth 100000 in
theorem sortLease_is (kb g cap base : Nat) (xs : List LeaseD) (w : World) (hrow : w.ownsRow base 42 3 (.slice (some ⟨g, 0, none⟩) xs.length cap) xs.length (cLeases xs)) (hk : w.cell? ⟨kb, 0, none⟩ = some (.func (.func 58) #[] #[])) (hkl : kb < w.heap.size) (hne : kb ≠ g) (hx : xs.length ≤ 1000) :
    Calls Tryz.prog 161 #[.slice (some ⟨g, 0, none⟩) xs.length cap, .func (.func 131) #[] #[.pointer (some ⟨kb, 0, none⟩)]] w fun e w' => e = .returned (.tuple #[]) ∧ ∃ ys : List LeaseD, ys.Perm xs ∧ ys.Pairwise (fun a b => ¬ lt b.job a.job) ∧ w'.ownsRow base 42 3 (.slice (some ⟨g, 0, none⟩) xs.length cap) xs.length (cLeases ys) ∧ w.grownBy w' (some g) := by
  rcases hrow.2 with ⟨hv, _⟩ | ⟨g', cap', cur, hv, hbg, hgc, hnc, hcm, hcs, htk⟩
  · cases hv
  · cases hv
    have hF : (Sort.flatK cLease 3 xs.toArray).size = xs.length * 3 := by rw [Sort.size_flatK]; simp
    have hH : Sort.HoldsK cLease 3 w g 0 xs.toArray := holds_put hgc (by rw [hF, flatLease]; exact htk)
    have eg : ∀ args w, (callFunc 131 args).run Tryz.prog w = .ok (.enter 131 args) w := enters_of Tryz.func131 (by kernel_rfl) rfl
    have hcon := AnyQ.slices_SortFunc Tryz.laySortLease 3 Tryz.isAgg42 Tryz.sizeOf42 cLease (fun _ => rfl) (fun x v hv => lease_ones x v hv) (cmpK (·.job)) (cmpK_swo _) 131 #[.pointer (some ⟨kb, 0, none⟩)] g 0 cap xs.toArray w eg
      (fun m os dk _ x y => cmpLease_is x y kb _ (cell_sortLease hk hkl hne).1 (cell_sortLease hk hkl hne).2) hH (Array.getElem?_eq_some_iff.1 hgc).1 (by simp; omega)
    have hs : xs.toArray.size = xs.length := by simp
    rw [hs] at hcon
    refine hcon.mono ?_
    rintro e w' ⟨rfl, d', n, os, hp, hsd, rfl⟩
    rw [← hs] at hp hsd
    obtain ⟨p1, p2⟩ := perm_in hp
    have e1 : d'.toList.toArray = d' := by simp
    rw [← p2] at hsd
    have hl : d'.size = xs.length := by rw [p2, hs]
    refine ⟨rfl, d'.toList, by simpa using p1, sorted_pair hsd, ?_, grown_put _⟩
    have hf := flatLease d'.toList
    rw [e1] at hf
    exact own_put hf (by rw [Sort.size_flatK, hl]) hbg hgc hnc hcm hcs
theorem sortLease_none (fv : Value) (w : World) : Calls Tryz.prog 161 #[.slice none 0 0, fv] w fun e w' => e = .returned (.tuple #[]) ∧ w' = w :=
  AnyF.slices_SortFunc_none { Tryz.laySortLease with } none 0 fv w
set_option maxRecDepth 100000 in
theorem srdLease_is (kb Bm b nn : Nat) (D0 : DataW Value) (rows : List LeaseD) (hl : Asc (·.job) rows) (hD : ∀ s : ByteArray, Maps.has D0 (keyL s) = (tabF (·.job) leaseV rows s).isSome ∧ ∀ z, D0.atKey (keyL s) (.held z) = .held ((tabF (·.job) leaseV rows s).getD z)) (hnn : nn ≤ 1000) (hr : rows.length ≤ 1000) (w : World) (hBm : Bm < w.heap.size)
    (hm : w.cell? ⟨Bm, 0, none⟩ = some (.map (some b))) (hown : w.ownsMap Tryz.prog 9 selfE b nn D0) (hk : w.cell? ⟨kb, 0, none⟩ = some (.func (.func 58) #[] #[])) (hkl : kb < w.heap.size) :
    Calls Tryz.prog 129 #[.func (.func 162) #[] #[.pointer (some ⟨Bm, 0, none⟩)], .func (.func 131) #[] #[.pointer (some ⟨kb, 0, none⟩)]] w fun e w' => ∃ ad cap, e = .returned (.slice ad rows.length cap) ∧ w'.ownsRow w.heap.size 42 3 (.slice ad rows.length cap) rows.length (cLeases rows) ∧ Below w.heap.size w w' := by
  have HA := Lib.hid (colLease_is Bm b nn D0 rows hl hD hnn w hBm hm hown)
  have HL := Lib.hid hl
  clear hl hD hm hown
  go_enter Tryz.func129, Tryz.ntmps129
  go_wp2_with fail
  refine HA.out.mono ?_
  rintro e w1 ⟨v, xs, rfl, hp, hown, hb⟩
  have HN := Lib.hid hp.length_eq
  have hx1 : xs.length ≤ 1000 := by rw [HN.out]; exact hr
  have hk1 : w1.cell? ⟨kb, 0, none⟩ = some (.func (.func 58) #[] #[]) := by rw [hb.cell (p := ⟨kb, 0, none⟩) hkl]; exact hk
  have hkl1 : kb < w1.heap.size := Nat.lt_of_lt_of_le hkl hb.size
  have HP := Lib.hid hp
  have HB := Lib.hid hb
  clear HA hk hb
  rcases hown.2 with ⟨rfl, h0⟩ | ⟨g, cap, cur, rfl, hbg, _⟩
  · have hr0 : rows = [] := List.eq_nil_of_length_eq_zero (by rw [← HN.out]; exact h0)
    have HO := Lib.hid (World.ownsRow_nil w1 w.heap.size 42 3)
    have HS := Lib.hid (sortLease_none (.func (.func 131) #[] #[.pointer (some ⟨kb, 0, none⟩)]) w1)
    clear hown hp hk1
    go_wp2_with fail
    refine HS.out.mono ?_
    rintro e w2 ⟨rfl, rfl⟩
    go_wp2
    go_ret
    refine ⟨none, 0, by rw [hr0]; rfl, ?_, HB.out⟩
    rw [hr0]
    exact HO.out
  · have HS := Lib.hid (sortLease_is kb g cap w.heap.size xs w1 hown hk1 hkl1 (by omega) hx1)
    clear hown hp hk1
    go_wp2_with fail
    refine HS.out.mono ?_
    rintro e w2 ⟨rfl, ys, hy1, hy2, hy3, hy4⟩
    have hys : ys = rows := sorted_is HL.out (hy1.trans HP.out) hy2
    subst hys
    have HY := Lib.hid hy3
    have HG := Lib.hid (HB.out.grown hy4 HB.out.size (fun k e => by cases e; exact hbg))
    clear hy1 hy2 hy3 hy4 HS
    go_wp2
    go_ret
    exact ⟨some ⟨g, 0, none⟩, cap, by rw [← HN.out]; rfl, by rw [← HN.out]; exact HY.out, HG.out⟩
set_option maxRecDepth 100000 in
theorem inoLease_is (b nn : Nat) (rows : List LeaseD) (hl : Asc (·.job) rows) (hnn : nn ≤ 1000) (hr : rows.length ≤ 1000) (w : World) (hM : MapAt w b nn (tabF (·.job) leaseV rows)) :
    Calls Tryz.prog 106 #[.map (some b), .func (.func 58) #[] #[]] w fun e w' => ∃ ad cap, e = .returned (.slice ad rows.length cap) ∧ w'.ownsRow w.heap.size 42 3 (.slice ad rows.length cap) rows.length (cLeases rows) ∧ Below w.heap.size w w' := by
  obtain ⟨W, hW⟩ : ∃ W, w.alloc (.cells #[.func (.func 58) #[] #[]] 102) = W := ⟨_, rfl⟩
  obtain ⟨W2, hW2⟩ : ∃ W2, W.alloc (.cells #[.map (some b)] 144) = W2 := ⟨_, rfl⟩
  have b1 : Below w.heap.size w W := by rw [← hW]; exact below_one _ _
  have s1 : W.heap.size = w.heap.size + 1 := by rw [← hW, World.size_alloc]
  have b2 : Below W.heap.size W W2 := by rw [← hW2]; exact below_one _ _
  have s2 : W2.heap.size = w.heap.size + 2 := by rw [← hW2, World.size_alloc, s1]
  have B2 : Below w.heap.size w W2 := below_trans b1 b2 b1.size
  have o1 : ObjAt w.heap.size #[.func (.func 58) #[] #[]] 102 W := by rw [← hW]; exact objAt_new w _ _
  have o2 : ObjAt (w.heap.size + 1) #[.map (some b)] 144 W2 := by rw [← hW2, ← s1]; exact objAt_new W _ _
  have k2 := objAt_cell (objAt_next o1 b2) 0 rfl
  have m2 := objAt_cell o2 0 rfl
  obtain ⟨D0, hown, hD⟩ := mapAt_below hM B2
  have HV := valLease_is (some b) W
  rw [hW2, s1] at HV
  have HV := Lib.hid HV
  have HS := Lib.hid (srdLease_is w.heap.size (w.heap.size + 1) b nn D0 rows hl hD hnn hr W2 (by omega) m2 hown k2 (by omega))
  have HB := Lib.hid B2
  have HW := Lib.hid hW
  have hs2 := Lib.hid s2
  clear hW hW2 hM hown hD b1 b2 o1 o2 k2 m2 hl B2 s1 s2
  go_enter Tryz.func106, Tryz.ntmps106
  go_wp2_with fail
  rw [HW.out]
  refine HV.out.mono ?_
  rintro e w1 ⟨rfl, rfl⟩
  go_wp2_with fail
  refine HS.out.mono ?_
  rintro e w3 ⟨ad, cap, rfl, h1, h2⟩
  have h1' := ownsRow_low (B' := w.heap.size) h1 (by have := hs2.out; omega)
  have h2' := below_trans HB.out h2 HB.out.size
  clear h1 h2
  go_wp2
  go_ret
  exact ⟨ad, cap, rfl, h1', h2'⟩
end Go.Proofs.YthpgkfonbmffdaaGreatDoor
