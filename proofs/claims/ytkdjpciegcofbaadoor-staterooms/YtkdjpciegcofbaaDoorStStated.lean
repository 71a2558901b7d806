/- The laws' own closed fact about a sample state. -/
import Derived.Test.YtkdjpciegcofbaaDoorStSample
import Derived.Maps.AppendAt
namespace Go.Proofs.YtkdjpciegcofbaaDoor
open Go.RowKit Go.Lib

theorem ownB_new4 (w : World) (a b c d : Value) (t : TypeId) : OwnB w.heap.size [a, b, c, d] (w.alloc (.cells #[a, b, c, d] t)) := by
  refine ⟨box_new4 _ _ _ _ _ _, fun j hj => ?_⟩
  match j with
  | 0 => go_simp
  | 1 => go_simp
  | 2 => go_simp
  | 3 => go_simp
  | j + 4 => exact absurd hj (by simp)
theorem own_slice {w : World} {base e sz n : Nat} {v : Value} {xs : List Value} (h : w.ownsRow base e sz v n xs) : ∃ ad cap, v = .slice ad n cap := by
  rcases h.2 with ⟨rfl, rfl⟩ | ⟨g, cap, cur, rfl, _⟩
  · exact ⟨_, _, rfl⟩
  · exact ⟨_, _, rfl⟩
/-- The fourth cell of a block of four, written anew. -/
theorem ownB_set3 {b : Nat} {v0 v1 v2 v3 : Value} {w : World} (h : OwnB b [v0, v1, v2, v3] w) (u : Value) : OwnB b [v0, v1, v2, u] (w.setCell ⟨b, 3, none⟩ u) := by
  have hl := h.1.2
  have k0 := h.1.1 0 _ rfl
  have k1 := h.1.1 1 _ rfl
  have k2 := h.1.1 2 _ rfl
  have k3 := h.1.1 3 _ rfl
  have f0 := h.2 0 (by simp)
  have f1 := h.2 1 (by simp)
  have f2 := h.2 2 (by simp)
  have f3 := h.2 3 (by simp)
  refine ⟨⟨fun j v hj => ?_, by simp [World.setCell, hl]⟩, fun j hj => ?_⟩
  · match j with
    | 0 => simp at hj; subst hj; go_simp
    | 1 => simp at hj; subst hj; go_simp
    | 2 => simp at hj; subst hj; go_simp
    | 3 => simp at hj; subst hj; go_simp
    | j + 4 => simp at hj
  · match j with
    | 0 => go_simp
    | 1 => go_simp
    | 2 => go_simp
    | 3 => go_simp
    | j + 4 => exact absurd hj (by simp)
theorem Tryd.infoLease : (Tryd.prog.info? 48).map (fun i => (i.zero, i.size, i.bytes)) = some (some (.agg #[.string ⟨#[]⟩, .string ⟨#[]⟩, .int .i64 0]), 3, 40) := by kernel_rfl
theorem lease_new (w : World) (x : LeaseD) (t : TypeId) : ∀ j u, (cLease x)[j]? = some u → (w.alloc (.cells #[.string x.job, .string x.node, .int .i64 x.til] t)).cell? ((⟨w.heap.size, 0, none⟩ : Addr).add j) = some u := by
  intro j u hj
  rw [addr_add]
  have := (box_new3 w (.string x.job) (.string x.node) (.int .i64 x.til) t).1 j u hj
  simpa using this
theorem cLease_one (x : LeaseD) : ∀ u : Value, u ∈ cLease x → u.oneCell' = true := by
  intro u hu
  have := cLeases_ones [x] u (by rw [cLeases_one]; exact hu)
  exact this
theorem wsample (l : List LeaseD) (hl : ∀ x ∈ l, wLease x) : wState ⟨4, sampleJ, sampleN, l⟩ := by
  refine ⟨show (Lit.int .i64 4).wf = true by decide, ?_, ?_, hl⟩
  · intro x hx
    simp only [sampleJ, List.mem_cons, List.not_mem_nil, or_false] at hx
    rcases hx with rfl | rfl
    · exact ⟨by decide, by decide, by decide, by decide, by decide⟩
    · exact ⟨by decide, by decide, by decide, by decide, by decide⟩
  · intro x hx
    simp only [sampleN, List.mem_cons, List.not_mem_nil, or_false] at hx
    subst hx
    exact ⟨by decide, by decide, by decide⟩
theorem wl1 : ∀ x ∈ sampleL, wLease x := by
  intro x hx
  simp only [sampleL, List.mem_cons, List.not_mem_nil, or_false] at hx
  subst hx
  exact ⟨by decide, by decide, by decide⟩
theorem wl2 : ∀ x ∈ sampleL ++ [moreL], wLease x := by
  intro x hx
  rcases List.mem_append.1 hx with hx | hx
  · exact wl1 x hx
  · simp only [List.mem_cons, List.not_mem_nil, or_false] at hx
    subst hx
    exact ⟨by decide, by decide, by decide⟩
set_option maxRecDepth 100000 in
set_option maxHeartbeats 2000000 in
theorem stated_is (w : World) (hT : Tabs w) : Calls Tryd.prog 19 #[] w fun e w' => e = .returned (.bool true) ∧ Below w.heap.size w w' := by
  obtain ⟨i0, hi, hz0, hz1, hz2⟩ := info_parts' Tryd.infoLease
  have Hi := Lib.hid hi
  have Hz0 := Lib.hid hz0
  have Hz1 := Lib.hid hz1
  have Hz2 := Lib.hid hz2
  have HT := Lib.hid hT
  clear hi hz0 hz1 hz2 hT
  go_enter Tryd.func19, Tryd.ntmps19
  go_wp2_with fail
  refine (sample_is w).mono ?_
  rintro e w1 ⟨rfl, oj, on, ol, b1⟩
  obtain ⟨W2, hW2⟩ : ∃ W2, w1.alloc (.cells #[.int .i64 4, .slice (some ⟨w.heap.size + 1, 0, none⟩) sampleJ.length 2, .slice (some ⟨w.heap.size + 1 + 1, 0, none⟩) sampleN.length 1, .slice (some ⟨w.heap.size + 1 + 1 + 1, 0, none⟩) sampleL.length 1] 26) = W2 := ⟨_, rfl⟩
  have b2 : Below w1.heap.size w1 W2 := by rw [← hW2]; exact below_one _ _
  have hb2 := below_trans b1 b2 b1.size
  have q := ownB_new4 w1 (.int .i64 4) (.slice (some ⟨w.heap.size + 1, 0, none⟩) sampleJ.length 2) (.slice (some ⟨w.heap.size + 1 + 1, 0, none⟩) sampleN.length 1) (.slice (some ⟨w.heap.size + 1 + 1 + 1, 0, none⟩) sampleL.length 1) 26
  rw [hW2] at q
  have HU := Lib.hid (usedS_any 4 _ _ _ 2 1 1 sampleJ sampleN sampleL ⟨#[110]⟩ (by decide) (wsample _ wl1) W2 (HT.out.below hb2) (ownJobs (own_next oj b2) rfl) (ownNodes (own_next on b2) rfl) (ownLeases (own_next ol b2) rfl))
  rw [sample_used] at HU
  have k0 := q.1.1 0 _ rfl
  have k1 := q.1.1 1 _ rfl
  have k2 := q.1.1 2 _ rfl
  have k3 := q.1.1 3 _ rfl
  go_wp2_with fail
  refine HU.out.mono ?_
  rintro e w3 ⟨rfl, b3⟩
  have q3 := ownB_next q b3
  have hb3 := below_trans hb2 b3 hb2.size
  have oj3 := own_next (own_next oj b2) b3
  have on3 := own_next (own_next on b2) b3
  have ol3 := own_next (own_next ol b2) b3
  have hb1s := b1.size
  have hs2 := b2.size
  have hlt := (ol.lt _ rfl).2
  clear k0 k1 k2 k3 HU q oj on ol
  have k0 := q3.1.1 0 _ rfl
  have k1 := q3.1.1 1 _ rfl
  have k2 := q3.1.1 2 _ rfl
  have k3 := q3.1.1 3 _ rfl
  have f3 := q3.2 3 (by simp)
  go_wp2_with (at_builtin; refine wpList_append_own_at _ rfl _ _ 24 rfl w.heap.size 48 i0 _ 3 40 Tryd.underlying24 Hi.out Hz0.out Hz1.out Hz2.out rfl (by decide) _ _ _ rfl (ol3.alloc _) ⟨w3.heap.size, 0, none⟩ 1 1 (cLease moreL) rfl rfl ?c1 ?c2 ?c3 ?c4 ?c5 ?_)
  case c1 => exact fun j u hj => lease_new w3 moreL _ j u hj
  case c2 => exact cLease_one _
  case c3 => unfold maxLen; omega
  case c4 => omega
  case c5 => have := hb3.size; simp; omega
  intro v' w4 own4 hg4 _ hloc
  have hn4 : v'.ownBlock ≠ some w1.heap.size := by
    intro e
    rcases hloc with h | h
    · rw [e] at h
      have h : some w1.heap.size = some (w.heap.size + 1 + 1 + 1) := h
      simp only [Option.some.injEq] at h
      omega
    · have h5 := b3.size
      have h6 := q3.1.2
      rw [e] at h
      simp at h
      omega
  obtain ⟨ad, cap, rfl⟩ := own_slice own4
  have hne : some w1.heap.size ≠ (Value.slice (some ⟨w.heap.size + 1 + 1 + 1, 0, none⟩) 1 1).ownBlock := by
    show some _ ≠ some _
    intro e
    simp only [Option.some.injEq] at e
    omega
  have q4 := ownB_grown (ownB_alloc q3 _) hg4 hne
  have oj4 := (oj3.alloc _).kept hg4 (.inr (by show some _ ≠ some _; intro e; simp only [Option.some.injEq] at e; omega))
  have on4 := (on3.alloc _).kept hg4 (.inr (by show some _ ≠ some _; intro e; simp only [Option.some.injEq] at e; omega))
  have hb4 := (hb3.alloc hb3.size (.cells #[.string moreL.job, .string moreL.node, .int .i64 moreL.til] 48)).grown hg4 (by have := hb3.size; simp; omega) (fun j hj => by
    have hj : some (w.heap.size + 1 + 1 + 1) = some j := hj
    simp only [Option.some.injEq] at hj
    omega)
  rw [← cLeases_one, ← cLeases_append] at own4
  have hb5 := hb4.setCell (p := ⟨w1.heap.size, 3, none⟩) b1.size (.slice ad (1 + 1) cap)
  have q5 := ownB_set3 q4 (.slice ad (1 + 1) cap)
  have oj5 := oj4.kept (grown_set w4 w1.heap.size 3 (.slice ad (1 + 1) cap)) (.inr (by show some _ ≠ some _; intro e; simp only [Option.some.injEq] at e; omega))
  have on5 := on4.kept (grown_set w4 w1.heap.size 3 (.slice ad (1 + 1) cap)) (.inr (by show some _ ≠ some _; intro e; simp only [Option.some.injEq] at e; omega))
  have ol5 := own4.kept (grown_set w4 w1.heap.size 3 (.slice ad (1 + 1) cap)) (.inr hn4)
  have HC := Lib.hid (check_any 4 _ _ _ 2 1 cap sampleJ sampleN (sampleL ++ [moreL]) (wsample _ wl2) _ (HT.out.below hb5) (ownJobs oj5 rfl) (ownNodes on5 rfl) (ownLeases ol5 rfl))
  rw [sample_more] at HC
  clear k0 k1 k2 k3 f3 hg4 hloc
  have k3 := q4.1.1 3 _ rfl
  have f3 := q4.2 3 (by simp)
  have j0 := q5.1.1 0 _ rfl
  have j1 := q5.1.1 1 _ rfl
  have j2 := q5.1.1 2 _ rfl
  have j3 := q5.1.1 3 _ rfl
  go_wp2_with fail
  refine HC.out.mono ?_
  rintro e w6 ⟨rfl, b6⟩
  have hb6 := below_trans hb5 b6 hb5.size
  go_wp2
  go_ret
  exact ⟨rfl, hb6⟩
end Go.Proofs.YtkdjpciegcofbaaDoor
