/- Package delta: change. -/
import Derived.Test.YtiilagmmgpnpdaaGreatDoorPkDl5
namespace Go.Proofs.YtiilagmmgpnpdaaGreatDoor
open Go.RowKit

theorem less_there {α : Type} {key : α → ByteArray} {l : List α} {gs : List ByteArray} (hg : Asc id gs) {i : Nat} (hi : i < gs.length) (x : α) : (x ∈ lessN key l gs i ∧ key x = gs[i]) ↔ (x ∈ l ∧ key x = gs[i]) := by
  rw [lessN_mem]
  constructor
  · rintro ⟨⟨a, _⟩, c⟩; exact ⟨a, c⟩
  · rintro ⟨a, c⟩
    refine ⟨⟨a, fun hm => ?_⟩, c⟩
    obtain ⟨j, hj, e⟩ := List.mem_take_iff_getElem.1 hm
    have hlt := List.pairwise_iff_getElem.1 hg j i (by omega) hi (by omega)
    rw [c] at e
    exact lt_ne hlt e
theorem less_look {α : Type} {key : α → ByteArray} {V : α → Value} {l : List α} {gs : List ByteArray} (hg : Asc id gs) {i : Nat} (hi : i < gs.length) : (tabF key V (lessN key l gs i) gs[i]).isSome = l.any fun x => decide (key x = gs[i]) := by
  unfold tabF
  rw [Option.isSome_map, lastD_isSome]
  rw [Bool.eq_iff_iff, List.any_eq_true, List.any_eq_true]
  constructor
  · rintro ⟨x, h1, h2⟩
    have := (less_there hg hi x).1 ⟨h1, by simpa using h2⟩
    exact ⟨x, this.1, h2⟩
  · rintro ⟨x, h1, h2⟩
    have := (less_there (l := l) hg hi x).2 ⟨h1, by simpa using h2⟩
    exact ⟨x, this.1, h2⟩
theorem puts_len {α : Type} (key : α → ByteArray) : ∀ (xs l : List α), (putsL key l xs).length ≤ l.length + xs.length
  | [], l => Nat.le_refl _
  | x :: xs, l => by
    have h1 := puts_len key xs (putL key x l)
    have h2 : ∀ m : List α, (putL key x m).length ≤ m.length + 1 := by
      intro m
      induction m with
      | nil => simp [putL]
      | cons y m ih =>
        unfold putL
        split
        · simp only [List.length_cons]; omega
        · split <;> simp
    have h3 := h2 l
    have e : putsL key l (x :: xs) = putsL key (putL key x l) xs := rfl
    rw [e, List.length_cons]
    omega

set_option maxRecDepth 100000 in
set_option maxHeartbeats 8000000 in
theorem changeJob_is (rows xs : List JobD) (gs : List ByteArray) (ra ga xa : Option Addr) (rc gc xc : Nat) (hr : Asc (·.name) rows) (hg : Asc id gs) (hlr : rows.length ≤ 40) (hlg : gs.length ≤ 40) (hlx : xs.length ≤ 40) (hwr : ∀ x ∈ rows, x.name.size ≤ maxLen) (hwg : ∀ x ∈ gs, x.size ≤ maxLen) (hwx : ∀ x ∈ xs, x.name.size ≤ maxLen) (w : World) (hxr : JobsAt w ra rows) (hxg : NmsAt w ga gs) (hxx : JobsAt w xa xs) :
    Calls Tryz.prog 48 #[.slice ra rows.length rc, .slice ga gs.length gc, .slice xa xs.length xc, .func (.func 49) #[] #[]] w fun e w' => ∃ ad n cap, e = .returned (.tuple #[.slice ad n cap, .bool (gs.all (hasJob rows))]) ∧
      (gs.all (hasJob rows) = true → n = (applyL (·.name) rows gs xs).length ∧ w'.ownsRow w.heap.size 38 5 (.slice ad n cap) n (cJobs (applyL (·.name) rows gs xs))) ∧ Below w.heap.size w w' := by
  have HBK := Lib.hid (byKeyJob_is rows ra rc hlr hwr w hxr)
  have hpl := puts_len (·.name) xs (lessL (·.name) rows gs)
  have hll : (lessL (·.name) rows gs).length ≤ rows.length := by rw [← lessN_end]; exact lessN_size gs gs.length
  obtain ⟨G, hG⟩ : ∃ G, gs.all (hasJob rows) = G := ⟨_, rfl⟩
  obtain ⟨L, hL⟩ : ∃ L, applyL (·.name) rows gs xs = L := ⟨_, rfl⟩
  have hLl : L.length ≤ 80 := by rw [← hL]; unfold applyL; omega
  rw [hG, hL]
  have HGE := Lib.hid hG
  have HLE := Lib.hid hL
  clear hG hL hpl hll
  have HXG := Lib.hid hxg
  have HXX := Lib.hid hxx
  have HA := Lib.hid hr
  have HGA := Lib.hid hg
  have HWG := Lib.hid hwg
  have HWX := Lib.hid hwx
  clear hxr hxg hxx hr hg hwr hwg hwx
  go_enter Tryz.func48, Tryz.ntmps48
  go_wp2_with fail
  refine HBK.out.mono ?_
  rintro e w0 ⟨rfl, M0, b0⟩
  have MM := Lib.hid M0
  have BB := Lib.hid b0
  clear M0 b0 HBK
  go_wp2
  go_loopw [22] (fun iv wr => ∃ (i : Nat), iv = .int .i64 (i : Int) ∧ i ≤ gs.length ∧ MapAt wr w.heap.size rows.length (tabF (·.name) jobV (lessN (·.name) rows gs i)) ∧ Below w.heap.size w wr ∧ Hid (∀ j (hj : j < gs.length), j < i → hasJob rows gs[j] = true)) (fun iv _ => gs.length - (intOf iv).toNat)
  case atStart => exact ⟨0, rfl, Nat.zero_le _, mapAt_ext MM.out (fun s => by rw [lessN_zero]), BB.out, fun j _ hj => by omega⟩
  case round =>
    clear MM BB
    obtain ⟨i, rfl, hi, hM, hbr, HJ⟩ := hrel
    have hbs := hbr.size
    by_cases h : (i : Int) < (gs.length : Int)
    · have hil : i < gs.length := by omega
      obtain ⟨a, rfl, hal, k0⟩ := nmsAt_next HXG.out hbr i hil
      obtain ⟨s, hsi⟩ : ∃ s, gs[i] = s := ⟨_, rfl⟩
      have hlk := less_look (key := (·.name)) (V := jobV) (l := rows) HGA.out hil
      rw [hsi] at k0 hlk
      have hws : s.size ≤ maxLen := HWG.out s (by rw [← hsi]; exact List.getElem_mem _)
      have Hsi := Lib.hid hsi
      obtain ⟨y, hy⟩ := tabF_pick (·.name) jobV (lessN (·.name) rows gs i) s zeroJ
      obtain ⟨d, hd⟩ : ∃ d, hasJob rows s = d := ⟨_, rfl⟩
      have Y1 : Hid ((tabF (·.name) jobV (lessN (·.name) rows gs i) s).isSome = d) := by show _ = _; rw [hlk, ← hd]; rfl
      have Z1 : Hid ((tabF (·.name) jobV (lessN (·.name) rows gs i) s).getD (jobV zeroJ) = .agg #[.string y.name, .int .i64 y.prio, .int .i64 y.need, .int .i64 y.tries, .string y.tag]) := hy
      have Hd := Lib.hid hd
      have b2 := below_one wr (.cells #[.string y.name, .int .i64 y.prio, .int .i64 y.need, .int .i64 y.tries, .string y.tag] 38)
      have M2 := mapAt_below hM b2
      have B2 := Lib.hid (below_trans hbr b2 hbr.size)
      clear hsi hlk hy hd b2
      cases d with
      | false =>
        have HF : Hid (G = false) := by
          show _ = _
          rw [← HGE.out, List.all_eq_false]
          exact ⟨gs[i], List.getElem_mem _, by rw [Hsi.out, Hd.out]; simp⟩
        clear M2
        go_wp2_with (at_lookup; refine wpList_look_ok _ rfl _ _ 103 rfl 38 Tryz.underlying103 (zeroJob _) _ _ _ rfl hM s rfl hws _ _ Z1.out Y1.out ?_)
        go_ret2
        exact ⟨none, 0, 0, by rw [HF.out]; rfl, fun e => (by rw [HF.out] at e; cases e), B2.out⟩
      | true =>
        go_wp2_with (first
          | (at_lookup; refine wpList_look_ok _ rfl _ _ 103 rfl 38 Tryz.underlying103 (zeroJob _) _ _ _ rfl hM s rfl hws _ _ Z1.out Y1.out ?_)
          | (at_delete; refine wpList_del _ rfl _ _ 103 rfl 38 Tryz.underlying103 _ _ _ rfl M2 s rfl hws ?_))
        intro w5 M5 hg5
        have B5 := grownB_below B2.out hg5 B2.out.size (Nat.le_refl _)
        have M6 : MapAt w5 w.heap.size rows.length (tabF (·.name) jobV (lessN (·.name) rows gs (i + 1))) := mapAt_ext M5 (fun s' => by rw [tabF_drop (lessN_asc HA.out gs i)]; have hst := lessN_step (key := (·.name)) (l := rows) gs i hil; rw [Hsi.out] at hst; rw [hst])
        have HJ2 : Hid (∀ j (hj : j < gs.length), j < i + 1 → hasJob rows gs[j] = true) := fun j hj hji => by
          by_cases e : j = i
          · subst e; rw [Hsi.out]; exact Hd.out
          · exact HJ.out j hj (by omega)
        clear M5 hg5 M2 hM
        go_wp2
        go_roundw
        case rel => exact ⟨i + 1, by simp, by omega, M6, B5, HJ2⟩
        case measure => simp [intOf]; omega
    · obtain rfl : i = gs.length := by omega
      have HT : Hid (G = true) := by
        show _ = _
        rw [← HGE.out, List.all_eq_true]
        intro s hs
        obtain ⟨j, hj, rfl⟩ := List.getElem_of_mem hs
        exact HJ.out j hj hj
      have hM2 : MapAt wr w.heap.size rows.length (tabF (·.name) jobV (lessL (·.name) rows gs)) := mapAt_ext hM (fun s => by rw [lessN_end])
      have HLA := Lib.hid (less_asc HA.out gs)
      have HM2 := Lib.hid hM2
      have HBR := Lib.hid hbr
      clear hM hM2 HJ
      go_wp2
      go_loopw [39] (fun iv wq => ∃ (j : Nat), iv = .int .i64 (j : Int) ∧ j ≤ xs.length ∧ MapAt wq w.heap.size (rows.length + j) (tabF (·.name) jobV (putsL (·.name) (lessL (·.name) rows gs) (xs.take j))) ∧ Below w.heap.size w wq) (fun iv _ => xs.length - (intOf iv).toNat)
      case atStart => exact ⟨0, rfl, Nat.zero_le _, mapAt_ext HM2.out (fun s => rfl), HBR.out⟩
      case round =>
        clear HM2 HBR hbr
        obtain ⟨j, rfl, hj, hM, hbr⟩ := hrel
        have hbs := hbr.size
        rename World => wq
        by_cases h2 : (j : Int) < (xs.length : Int)
        · have hjl : j < xs.length := by omega
          obtain ⟨a, rfl, hal, k0, k1, k2, k3, k4⟩ := jobsAt_next HXX.out hbr j hjl
          obtain ⟨x, hxi⟩ : ∃ x, xs[j] = x := ⟨_, rfl⟩
          rw [hxi] at k0 k1 k2 k3 k4
          have hwx : x.name.size ≤ maxLen := HWX.out x (by rw [← hxi]; exact List.getElem_mem _)
          have HPT := puts_take (key := (·.name)) (lessL (·.name) rows gs) xs j hjl
          rw [hxi] at HPT
          have HPT := Lib.hid HPT
          have HPA := Lib.hid (puts_asc (xs.take j) HLA.out)
          have bA := below_one wq (.cells #[.string x.name, .int .i64 x.prio, .int .i64 x.need, .int .i64 x.tries, .string x.tag] 38)
          have oB := objAt_new wq #[.string x.name, .int .i64 x.prio, .int .i64 x.need, .int .i64 x.tries, .string x.tag] 38
          have M0 := Lib.hid (mapAt_below hM bA)
          have BR := Lib.hid (below_trans hbr bA hbr.size)
          have OB := Lib.hid oB
          have c0 := objAt_cell oB 0 rfl
          have c1 := objAt_cell oB 1 rfl
          have c2 := objAt_cell oB 2 rfl
          have c3 := objAt_cell oB 3 rfl
          have c4 := objAt_cell oB 4 rfl
          have cl := objAt_lt oB
          clear hxi oB bA hM
          go_upto_region 13 with fail
          go_region_law (first
            | (go_simp; go_at_call 49; refine (jobKey_is x _).mono ?_; rintro e w1 ⟨rfl, b1'⟩; have b1 := below_drawn b1'; have B1 := Lib.hid (below_trans BR.out b1 BR.out.size); have O1 := objAt_next OB.out b1; have M1 := mapAt_below M0.out b1; have d0 := objAt_cell O1 0 rfl; have d1 := objAt_cell O1 1 rfl; have d2 := objAt_cell O1 2 rfl; have d3 := objAt_cell O1 3 rfl; have d4 := objAt_cell O1 4 rfl; have dl := objAt_lt O1; obtain ⟨w2, hrun, M2', hg2'⟩ := put_run Tryz.underlying103 M1 (by unfold maxLen; omega) x.name hwx (.agg #[.string x.name, .int .i64 x.prio, .int .i64 x.need, .int .i64 x.tries, .string x.tag]); have M2 := Lib.hid M2'; have hg2 := Lib.hid hg2'; clear O1 M2' hg2'))
          all_goals
            have hb2 := grownB_below B1.out hg2.out B1.out.size (Nat.le_refl _)
            have M3 : MapAt w2 w.heap.size (rows.length + (j + 1)) (tabF (·.name) jobV (putsL (·.name) (lessL (·.name) rows gs) (xs.take (j + 1)))) := mapAt_ext M2.out (fun s => by rw [HPT.out]; exact tabF_put HPA.out x s)
            clear M2 hg2 M1 B1 M0 BR OB hrun
            go_wp2
            go_roundw
            case rel => exact ⟨j + 1, by simp, by omega, M3, hb2⟩
            case measure => simp [intOf]; omega
        · obtain rfl : j = xs.length := by omega
          rw [List.take_length] at hM
          have hLA := apply_asc HA.out gs xs
          have hM' : MapAt wq w.heap.size (rows.length + xs.length) (tabF (·.name) jobV (applyL (·.name) rows gs xs)) := hM
          rw [HLE.out] at hLA hM'
          have HI := Lib.hid (inoJob_is w.heap.size (rows.length + xs.length) L hLA (by omega) (by omega) wq hM')
          have HBR := Lib.hid hbr
          clear hM hM' hLA hbr
          go_wp2_with fail
          refine HI.out.mono ?_
          rintro e w3 ⟨ad, cap, rfl, own3, b3⟩
          have R := Lib.hid (ownsRow_low (B' := w.heap.size) own3 (by omega))
          have B := Lib.hid (below_trans HBR.out b3 HBR.out.size)
          clear own3 b3 HI
          go_wp2
          go_ret2
          exact ⟨ad, L.length, cap, by rw [HT.out]; rfl, fun _ => ⟨rfl, R.out⟩, B.out⟩

set_option maxRecDepth 100000 in
set_option maxHeartbeats 8000000 in
theorem changeNode_is (rows xs : List NodeD) (gs : List ByteArray) (ra ga xa : Option Addr) (rc gc xc : Nat) (hr : Asc (·.name) rows) (hg : Asc id gs) (hlr : rows.length ≤ 40) (hlg : gs.length ≤ 40) (hlx : xs.length ≤ 40) (hwr : ∀ x ∈ rows, x.name.size ≤ maxLen) (hwg : ∀ x ∈ gs, x.size ≤ maxLen) (hwx : ∀ x ∈ xs, x.name.size ≤ maxLen) (w : World) (hxr : NodesAt w ra rows) (hxg : NmsAt w ga gs) (hxx : NodesAt w xa xs) :
    Calls Tryz.prog 50 #[.slice ra rows.length rc, .slice ga gs.length gc, .slice xa xs.length xc, .func (.func 51) #[] #[]] w fun e w' => ∃ ad n cap, e = .returned (.tuple #[.slice ad n cap, .bool (gs.all (hasNode rows))]) ∧
      (gs.all (hasNode rows) = true → n = (applyL (·.name) rows gs xs).length ∧ w'.ownsRow w.heap.size 40 3 (.slice ad n cap) n (cNodes (applyL (·.name) rows gs xs))) ∧ Below w.heap.size w w' := by
  have HBK := Lib.hid (byKeyNode_is rows ra rc hlr hwr w hxr)
  have hpl := puts_len (·.name) xs (lessL (·.name) rows gs)
  have hll : (lessL (·.name) rows gs).length ≤ rows.length := by rw [← lessN_end]; exact lessN_size gs gs.length
  obtain ⟨G, hG⟩ : ∃ G, gs.all (hasNode rows) = G := ⟨_, rfl⟩
  obtain ⟨L, hL⟩ : ∃ L, applyL (·.name) rows gs xs = L := ⟨_, rfl⟩
  have hLl : L.length ≤ 80 := by rw [← hL]; unfold applyL; omega
  rw [hG, hL]
  have HGE := Lib.hid hG
  have HLE := Lib.hid hL
  clear hG hL hpl hll
  have HXG := Lib.hid hxg
  have HXX := Lib.hid hxx
  have HA := Lib.hid hr
  have HGA := Lib.hid hg
  have HWG := Lib.hid hwg
  have HWX := Lib.hid hwx
  clear hxr hxg hxx hr hg hwr hwg hwx
  go_enter Tryz.func50, Tryz.ntmps50
  go_wp2_with fail
  refine HBK.out.mono ?_
  rintro e w0 ⟨rfl, M0, b0⟩
  have MM := Lib.hid M0
  have BB := Lib.hid b0
  clear M0 b0 HBK
  go_wp2
  go_loopw [22] (fun iv wr => ∃ (i : Nat), iv = .int .i64 (i : Int) ∧ i ≤ gs.length ∧ MapAt wr w.heap.size rows.length (tabF (·.name) nodeV (lessN (·.name) rows gs i)) ∧ Below w.heap.size w wr ∧ Hid (∀ j (hj : j < gs.length), j < i → hasNode rows gs[j] = true)) (fun iv _ => gs.length - (intOf iv).toNat)
  case atStart => exact ⟨0, rfl, Nat.zero_le _, mapAt_ext MM.out (fun s => by rw [lessN_zero]), BB.out, fun j _ hj => by omega⟩
  case round =>
    clear MM BB
    obtain ⟨i, rfl, hi, hM, hbr, HJ⟩ := hrel
    have hbs := hbr.size
    by_cases h : (i : Int) < (gs.length : Int)
    · have hil : i < gs.length := by omega
      obtain ⟨a, rfl, hal, k0⟩ := nmsAt_next HXG.out hbr i hil
      obtain ⟨s, hsi⟩ : ∃ s, gs[i] = s := ⟨_, rfl⟩
      have hlk := less_look (key := (·.name)) (V := nodeV) (l := rows) HGA.out hil
      rw [hsi] at k0 hlk
      have hws : s.size ≤ maxLen := HWG.out s (by rw [← hsi]; exact List.getElem_mem _)
      have Hsi := Lib.hid hsi
      obtain ⟨y, hy⟩ := tabF_pick (·.name) nodeV (lessN (·.name) rows gs i) s zeroN
      obtain ⟨d, hd⟩ : ∃ d, hasNode rows s = d := ⟨_, rfl⟩
      have Y1 : Hid ((tabF (·.name) nodeV (lessN (·.name) rows gs i) s).isSome = d) := by show _ = _; rw [hlk, ← hd]; rfl
      have Z1 : Hid ((tabF (·.name) nodeV (lessN (·.name) rows gs i) s).getD (nodeV zeroN) = .agg #[.string y.name, .int .i64 y.room, .string y.zone]) := hy
      have Hd := Lib.hid hd
      have b2 := below_one wr (.cells #[.string y.name, .int .i64 y.room, .string y.zone] 40)
      have M2 := mapAt_below hM b2
      have B2 := Lib.hid (below_trans hbr b2 hbr.size)
      clear hsi hlk hy hd b2
      cases d with
      | false =>
        have HF : Hid (G = false) := by
          show _ = _
          rw [← HGE.out, List.all_eq_false]
          exact ⟨gs[i], List.getElem_mem _, by rw [Hsi.out, Hd.out]; simp⟩
        clear M2
        go_wp2_with (at_lookup; refine wpList_look_ok _ rfl _ _ 104 rfl 40 Tryz.underlying104 (zeroNode _) _ _ _ rfl hM s rfl hws _ _ Z1.out Y1.out ?_)
        go_ret2
        exact ⟨none, 0, 0, by rw [HF.out]; rfl, fun e => (by rw [HF.out] at e; cases e), B2.out⟩
      | true =>
        go_wp2_with (first
          | (at_lookup; refine wpList_look_ok _ rfl _ _ 104 rfl 40 Tryz.underlying104 (zeroNode _) _ _ _ rfl hM s rfl hws _ _ Z1.out Y1.out ?_)
          | (at_delete; refine wpList_del _ rfl _ _ 104 rfl 40 Tryz.underlying104 _ _ _ rfl M2 s rfl hws ?_))
        intro w5 M5 hg5
        have B5 := grownB_below B2.out hg5 B2.out.size (Nat.le_refl _)
        have M6 : MapAt w5 w.heap.size rows.length (tabF (·.name) nodeV (lessN (·.name) rows gs (i + 1))) := mapAt_ext M5 (fun s' => by rw [tabF_drop (lessN_asc HA.out gs i)]; have hst := lessN_step (key := (·.name)) (l := rows) gs i hil; rw [Hsi.out] at hst; rw [hst])
        have HJ2 : Hid (∀ j (hj : j < gs.length), j < i + 1 → hasNode rows gs[j] = true) := fun j hj hji => by
          by_cases e : j = i
          · subst e; rw [Hsi.out]; exact Hd.out
          · exact HJ.out j hj (by omega)
        clear M5 hg5 M2 hM
        go_wp2
        go_roundw
        case rel => exact ⟨i + 1, by simp, by omega, M6, B5, HJ2⟩
        case measure => simp [intOf]; omega
    · obtain rfl : i = gs.length := by omega
      have HT : Hid (G = true) := by
        show _ = _
        rw [← HGE.out, List.all_eq_true]
        intro s hs
        obtain ⟨j, hj, rfl⟩ := List.getElem_of_mem hs
        exact HJ.out j hj hj
      have hM2 : MapAt wr w.heap.size rows.length (tabF (·.name) nodeV (lessL (·.name) rows gs)) := mapAt_ext hM (fun s => by rw [lessN_end])
      have HLA := Lib.hid (less_asc HA.out gs)
      have HM2 := Lib.hid hM2
      have HBR := Lib.hid hbr
      clear hM hM2 HJ
      go_wp2
      go_loopw [39] (fun iv wq => ∃ (j : Nat), iv = .int .i64 (j : Int) ∧ j ≤ xs.length ∧ MapAt wq w.heap.size (rows.length + j) (tabF (·.name) nodeV (putsL (·.name) (lessL (·.name) rows gs) (xs.take j))) ∧ Below w.heap.size w wq) (fun iv _ => xs.length - (intOf iv).toNat)
      case atStart => exact ⟨0, rfl, Nat.zero_le _, mapAt_ext HM2.out (fun s => rfl), HBR.out⟩
      case round =>
        clear HM2 HBR hbr
        obtain ⟨j, rfl, hj, hM, hbr⟩ := hrel
        have hbs := hbr.size
        rename World => wq
        by_cases h2 : (j : Int) < (xs.length : Int)
        · have hjl : j < xs.length := by omega
          obtain ⟨a, rfl, hal, k0, k1, k2⟩ := nodesAt_next HXX.out hbr j hjl
          obtain ⟨x, hxi⟩ : ∃ x, xs[j] = x := ⟨_, rfl⟩
          rw [hxi] at k0 k1 k2
          have hwx : x.name.size ≤ maxLen := HWX.out x (by rw [← hxi]; exact List.getElem_mem _)
          have HPT := puts_take (key := (·.name)) (lessL (·.name) rows gs) xs j hjl
          rw [hxi] at HPT
          have HPT := Lib.hid HPT
          have HPA := Lib.hid (puts_asc (xs.take j) HLA.out)
          have bA := below_one wq (.cells #[.string x.name, .int .i64 x.room, .string x.zone] 40)
          have oB := objAt_new wq #[.string x.name, .int .i64 x.room, .string x.zone] 40
          have M0 := Lib.hid (mapAt_below hM bA)
          have BR := Lib.hid (below_trans hbr bA hbr.size)
          have OB := Lib.hid oB
          have c0 := objAt_cell oB 0 rfl
          have c1 := objAt_cell oB 1 rfl
          have c2 := objAt_cell oB 2 rfl
          have cl := objAt_lt oB
          clear hxi oB bA hM
          go_upto_region 13 with fail
          go_region_law (first
            | (go_simp; go_at_call 51; refine (nodeKey_is x _).mono ?_; rintro e w1 ⟨rfl, b1'⟩; have b1 := below_drawn b1'; have B1 := Lib.hid (below_trans BR.out b1 BR.out.size); have O1 := objAt_next OB.out b1; have M1 := mapAt_below M0.out b1; have d0 := objAt_cell O1 0 rfl; have d1 := objAt_cell O1 1 rfl; have d2 := objAt_cell O1 2 rfl; have dl := objAt_lt O1; obtain ⟨w2, hrun, M2', hg2'⟩ := put_run Tryz.underlying104 M1 (by unfold maxLen; omega) x.name hwx (.agg #[.string x.name, .int .i64 x.room, .string x.zone]); have M2 := Lib.hid M2'; have hg2 := Lib.hid hg2'; clear O1 M2' hg2'))
          all_goals
            have hb2 := grownB_below B1.out hg2.out B1.out.size (Nat.le_refl _)
            have M3 : MapAt w2 w.heap.size (rows.length + (j + 1)) (tabF (·.name) nodeV (putsL (·.name) (lessL (·.name) rows gs) (xs.take (j + 1)))) := mapAt_ext M2.out (fun s => by rw [HPT.out]; exact tabF_put HPA.out x s)
            clear M2 hg2 M1 B1 M0 BR OB hrun
            go_wp2
            go_roundw
            case rel => exact ⟨j + 1, by simp, by omega, M3, hb2⟩
            case measure => simp [intOf]; omega
        · obtain rfl : j = xs.length := by omega
          rw [List.take_length] at hM
          have hLA := apply_asc HA.out gs xs
          have hM' : MapAt wq w.heap.size (rows.length + xs.length) (tabF (·.name) nodeV (applyL (·.name) rows gs xs)) := hM
          rw [HLE.out] at hLA hM'
          have HI := Lib.hid (inoNode_is w.heap.size (rows.length + xs.length) L hLA (by omega) (by omega) wq hM')
          have HBR := Lib.hid hbr
          clear hM hM' hLA hbr
          go_wp2_with fail
          refine HI.out.mono ?_
          rintro e w3 ⟨ad, cap, rfl, own3, b3⟩
          have R := Lib.hid (ownsRow_low (B' := w.heap.size) own3 (by omega))
          have B := Lib.hid (below_trans HBR.out b3 HBR.out.size)
          clear own3 b3 HI
          go_wp2
          go_ret2
          exact ⟨ad, L.length, cap, by rw [HT.out]; rfl, fun _ => ⟨rfl, R.out⟩, B.out⟩

set_option maxRecDepth 100000 in
set_option maxHeartbeats 8000000 in
theorem changeLease_is (rows xs : List LeaseD) (gs : List ByteArray) (ra ga xa : Option Addr) (rc gc xc : Nat) (hr : Asc (·.job) rows) (hg : Asc id gs) (hlr : rows.length ≤ 40) (hlg : gs.length ≤ 40) (hlx : xs.length ≤ 40) (hwr : ∀ x ∈ rows, x.job.size ≤ maxLen) (hwg : ∀ x ∈ gs, x.size ≤ maxLen) (hwx : ∀ x ∈ xs, x.job.size ≤ maxLen) (w : World) (hxr : LeasesAt w ra rows) (hxg : NmsAt w ga gs) (hxx : LeasesAt w xa xs) :
    Calls Tryz.prog 52 #[.slice ra rows.length rc, .slice ga gs.length gc, .slice xa xs.length xc, .func (.func 53) #[] #[]] w fun e w' => ∃ ad n cap, e = .returned (.tuple #[.slice ad n cap, .bool (gs.all (hasLease rows))]) ∧
      (gs.all (hasLease rows) = true → n = (applyL (·.job) rows gs xs).length ∧ w'.ownsRow w.heap.size 42 3 (.slice ad n cap) n (cLeases (applyL (·.job) rows gs xs))) ∧ Below w.heap.size w w' := by
  have HBK := Lib.hid (byKeyLease_is rows ra rc hlr hwr w hxr)
  have hpl := puts_len (·.job) xs (lessL (·.job) rows gs)
  have hll : (lessL (·.job) rows gs).length ≤ rows.length := by rw [← lessN_end]; exact lessN_size gs gs.length
  obtain ⟨G, hG⟩ : ∃ G, gs.all (hasLease rows) = G := ⟨_, rfl⟩
  obtain ⟨L, hL⟩ : ∃ L, applyL (·.job) rows gs xs = L := ⟨_, rfl⟩
  have hLl : L.length ≤ 80 := by rw [← hL]; unfold applyL; omega
  rw [hG, hL]
  have HGE := Lib.hid hG
  have HLE := Lib.hid hL
  clear hG hL hpl hll
  have HXG := Lib.hid hxg
  have HXX := Lib.hid hxx
  have HA := Lib.hid hr
  have HGA := Lib.hid hg
  have HWG := Lib.hid hwg
  have HWX := Lib.hid hwx
  clear hxr hxg hxx hr hg hwr hwg hwx
  go_enter Tryz.func52, Tryz.ntmps52
  go_wp2_with fail
  refine HBK.out.mono ?_
  rintro e w0 ⟨rfl, M0, b0⟩
  have MM := Lib.hid M0
  have BB := Lib.hid b0
  clear M0 b0 HBK
  go_wp2
  go_loopw [22] (fun iv wr => ∃ (i : Nat), iv = .int .i64 (i : Int) ∧ i ≤ gs.length ∧ MapAt wr w.heap.size rows.length (tabF (·.job) leaseV (lessN (·.job) rows gs i)) ∧ Below w.heap.size w wr ∧ Hid (∀ j (hj : j < gs.length), j < i → hasLease rows gs[j] = true)) (fun iv _ => gs.length - (intOf iv).toNat)
  case atStart => exact ⟨0, rfl, Nat.zero_le _, mapAt_ext MM.out (fun s => by rw [lessN_zero]), BB.out, fun j _ hj => by omega⟩
  case round =>
    clear MM BB
    obtain ⟨i, rfl, hi, hM, hbr, HJ⟩ := hrel
    have hbs := hbr.size
    by_cases h : (i : Int) < (gs.length : Int)
    · have hil : i < gs.length := by omega
      obtain ⟨a, rfl, hal, k0⟩ := nmsAt_next HXG.out hbr i hil
      obtain ⟨s, hsi⟩ : ∃ s, gs[i] = s := ⟨_, rfl⟩
      have hlk := less_look (key := (·.job)) (V := leaseV) (l := rows) HGA.out hil
      rw [hsi] at k0 hlk
      have hws : s.size ≤ maxLen := HWG.out s (by rw [← hsi]; exact List.getElem_mem _)
      have Hsi := Lib.hid hsi
      obtain ⟨y, hy⟩ := tabF_pick (·.job) leaseV (lessN (·.job) rows gs i) s zeroL
      obtain ⟨d, hd⟩ : ∃ d, hasLease rows s = d := ⟨_, rfl⟩
      have Y1 : Hid ((tabF (·.job) leaseV (lessN (·.job) rows gs i) s).isSome = d) := by show _ = _; rw [hlk, ← hd]; rfl
      have Z1 : Hid ((tabF (·.job) leaseV (lessN (·.job) rows gs i) s).getD (leaseV zeroL) = .agg #[.string y.job, .string y.node, .int .i64 y.til]) := hy
      have Hd := Lib.hid hd
      have b2 := below_one wr (.cells #[.string y.job, .string y.node, .int .i64 y.til] 42)
      have M2 := mapAt_below hM b2
      have B2 := Lib.hid (below_trans hbr b2 hbr.size)
      clear hsi hlk hy hd b2
      cases d with
      | false =>
        have HF : Hid (G = false) := by
          show _ = _
          rw [← HGE.out, List.all_eq_false]
          exact ⟨gs[i], List.getElem_mem _, by rw [Hsi.out, Hd.out]; simp⟩
        clear M2
        go_wp2_with (at_lookup; refine wpList_look_ok _ rfl _ _ 141 rfl 42 Tryz.underlying141 (zeroLease _) _ _ _ rfl hM s rfl hws _ _ Z1.out Y1.out ?_)
        go_ret2
        exact ⟨none, 0, 0, by rw [HF.out]; rfl, fun e => (by rw [HF.out] at e; cases e), B2.out⟩
      | true =>
        go_wp2_with (first
          | (at_lookup; refine wpList_look_ok _ rfl _ _ 141 rfl 42 Tryz.underlying141 (zeroLease _) _ _ _ rfl hM s rfl hws _ _ Z1.out Y1.out ?_)
          | (at_delete; refine wpList_del _ rfl _ _ 141 rfl 42 Tryz.underlying141 _ _ _ rfl M2 s rfl hws ?_))
        intro w5 M5 hg5
        have B5 := grownB_below B2.out hg5 B2.out.size (Nat.le_refl _)
        have M6 : MapAt w5 w.heap.size rows.length (tabF (·.job) leaseV (lessN (·.job) rows gs (i + 1))) := mapAt_ext M5 (fun s' => by rw [tabF_drop (lessN_asc HA.out gs i)]; have hst := lessN_step (key := (·.job)) (l := rows) gs i hil; rw [Hsi.out] at hst; rw [hst])
        have HJ2 : Hid (∀ j (hj : j < gs.length), j < i + 1 → hasLease rows gs[j] = true) := fun j hj hji => by
          by_cases e : j = i
          · subst e; rw [Hsi.out]; exact Hd.out
          · exact HJ.out j hj (by omega)
        clear M5 hg5 M2 hM
        go_wp2
        go_roundw
        case rel => exact ⟨i + 1, by simp, by omega, M6, B5, HJ2⟩
        case measure => simp [intOf]; omega
    · obtain rfl : i = gs.length := by omega
      have HT : Hid (G = true) := by
        show _ = _
        rw [← HGE.out, List.all_eq_true]
        intro s hs
        obtain ⟨j, hj, rfl⟩ := List.getElem_of_mem hs
        exact HJ.out j hj hj
      have hM2 : MapAt wr w.heap.size rows.length (tabF (·.job) leaseV (lessL (·.job) rows gs)) := mapAt_ext hM (fun s => by rw [lessN_end])
      have HLA := Lib.hid (less_asc HA.out gs)
      have HM2 := Lib.hid hM2
      have HBR := Lib.hid hbr
      clear hM hM2 HJ
      go_wp2
      go_loopw [39] (fun iv wq => ∃ (j : Nat), iv = .int .i64 (j : Int) ∧ j ≤ xs.length ∧ MapAt wq w.heap.size (rows.length + j) (tabF (·.job) leaseV (putsL (·.job) (lessL (·.job) rows gs) (xs.take j))) ∧ Below w.heap.size w wq) (fun iv _ => xs.length - (intOf iv).toNat)
      case atStart => exact ⟨0, rfl, Nat.zero_le _, mapAt_ext HM2.out (fun s => rfl), HBR.out⟩
      case round =>
        clear HM2 HBR hbr
        obtain ⟨j, rfl, hj, hM, hbr⟩ := hrel
        have hbs := hbr.size
        rename World => wq
        by_cases h2 : (j : Int) < (xs.length : Int)
        · have hjl : j < xs.length := by omega
          obtain ⟨a, rfl, hal, k0, k1, k2⟩ := leasesAt_next HXX.out hbr j hjl
          obtain ⟨x, hxi⟩ : ∃ x, xs[j] = x := ⟨_, rfl⟩
          rw [hxi] at k0 k1 k2
          have hwx : x.job.size ≤ maxLen := HWX.out x (by rw [← hxi]; exact List.getElem_mem _)
          have HPT := puts_take (key := (·.job)) (lessL (·.job) rows gs) xs j hjl
          rw [hxi] at HPT
          have HPT := Lib.hid HPT
          have HPA := Lib.hid (puts_asc (xs.take j) HLA.out)
          have bA := below_one wq (.cells #[.string x.job, .string x.node, .int .i64 x.til] 42)
          have oB := objAt_new wq #[.string x.job, .string x.node, .int .i64 x.til] 42
          have M0 := Lib.hid (mapAt_below hM bA)
          have BR := Lib.hid (below_trans hbr bA hbr.size)
          have OB := Lib.hid oB
          have c0 := objAt_cell oB 0 rfl
          have c1 := objAt_cell oB 1 rfl
          have c2 := objAt_cell oB 2 rfl
          have cl := objAt_lt oB
          clear hxi oB bA hM
          go_upto_region 13 with fail
          go_region_law (first
            | (go_simp; go_at_call 53; refine (leaseKey_is x _).mono ?_; rintro e w1 ⟨rfl, b1'⟩; have b1 := below_drawn b1'; have B1 := Lib.hid (below_trans BR.out b1 BR.out.size); have O1 := objAt_next OB.out b1; have M1 := mapAt_below M0.out b1; have d0 := objAt_cell O1 0 rfl; have d1 := objAt_cell O1 1 rfl; have d2 := objAt_cell O1 2 rfl; have dl := objAt_lt O1; obtain ⟨w2, hrun, M2', hg2'⟩ := put_run Tryz.underlying141 M1 (by unfold maxLen; omega) x.job hwx (.agg #[.string x.job, .string x.node, .int .i64 x.til]); have M2 := Lib.hid M2'; have hg2 := Lib.hid hg2'; clear O1 M2' hg2'))
          all_goals
            have hb2 := grownB_below B1.out hg2.out B1.out.size (Nat.le_refl _)
            have M3 : MapAt w2 w.heap.size (rows.length + (j + 1)) (tabF (·.job) leaseV (putsL (·.job) (lessL (·.job) rows gs) (xs.take (j + 1)))) := mapAt_ext M2.out (fun s => by rw [HPT.out]; exact tabF_put HPA.out x s)
            clear M2 hg2 M1 B1 M0 BR OB hrun
            go_wp2
            go_roundw
            case rel => exact ⟨j + 1, by simp, by omega, M3, hb2⟩
            case measure => simp [intOf]; omega
        · obtain rfl : j = xs.length := by omega
          rw [List.take_length] at hM
          have hLA := apply_asc HA.out gs xs
          have hM' : MapAt wq w.heap.size (rows.length + xs.length) (tabF (·.job) leaseV (applyL (·.job) rows gs xs)) := hM
          rw [HLE.out] at hLA hM'
          have HI := Lib.hid (inoLease_is w.heap.size (rows.length + xs.length) L hLA (by omega) (by omega) wq hM')
          have HBR := Lib.hid hbr
          clear hM hM' hLA hbr
          go_wp2_with fail
          refine HI.out.mono ?_
          rintro e w3 ⟨ad, cap, rfl, own3, b3⟩
          have R := Lib.hid (ownsRow_low (B' := w.heap.size) own3 (by omega))
          have B := Lib.hid (below_trans HBR.out b3 HBR.out.size)
          clear own3 b3 HI
          go_wp2
          go_ret2
          exact ⟨ad, L.length, cap, by rw [HT.out]; rfl, fun _ => ⟨rfl, R.out⟩, B.out⟩
end Go.Proofs.YtiilagmmgpnpdaaGreatDoor
