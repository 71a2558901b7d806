/- For every state and all other arguments the law OwnMemory of the package brackenkeep returns true, as a tied card: what a server gives out, and what it was made of, shares no memory with it. -/
import Derived.Test.YtiilagmmgpnpdaaGreatDoorSvLaw2
import Derived.Test.YtiilagmmgpnpdaaGreatDoorPkSt2
import Derived.Test.YtiilagmmgpnpdaaGreatDoorPkWi5
import Derived.Test.YtiilagmmgpnpdaaGreatDoorRest
namespace Go.Proofs.YtiilagmmgpnpdaaGreatDoor.ownMemory
open Go.ChangeShapes Go.WideShapes Go.ChangeAt Go.RowKit Go.Lib
set_option linter.unusedVariables false
set_option maxRecDepth 100000 in
theorem bcopy_job (xs : List JobD) (ad : Option Addr) (cap : Nat) (hlen : xs.length * 56 ≤ 140737488351232) (w : World) (hx : JobsAt w ad xs) :
    Calls Tryz.prog 28 #[.slice ad xs.length cap] w fun e w' => ∃ ad' cap', e = .returned (.slice ad' xs.length cap') ∧ w'.ownsRow w.heap.size 38 5 (.slice ad' xs.length cap') xs.length (cJobs xs) ∧ Below w.heap.size w w' := by
  obtain ⟨i0, hi, hz0, hz1, hz2⟩ := info_parts' Tryz.info_job
  have Hi := Lib.hid hi
  have Hz0 := Lib.hid hz0
  have Hz1 := Lib.hid hz1
  have Hz2 := Lib.hid hz2
  have HX := Lib.hid hx
  clear hi hz0 hz1 hz2 hx
  go_enter Tryz.func28, Tryz.ntmps28
  go_wp2_with (at_builtin; refine wpList_app rfl _ _ 22 rfl w.heap.size 38 i0 _ 5 56 Tryz.underlying22 Hi.out Hz0.out Hz1.out Hz2.out rfl (by decide) _ _ _ rfl (World.ownsRow_nil _ _ _ _) _ _ _ (cJobs xs) rfl ?c1 ?c2 ?c3 ?c4 ?c5 ?c6 ?_)
  case c1 => rw [cJobs_length]
  case c2 => exact src_job HX.out
  case c3 => exact cJobs_ones xs
  case c4 => unfold maxLen; omega
  case c5 => omega
  case c6 => exact Nat.le_refl _
  intro v' w1 own1 hg _
  have hb : Below w.heap.size w w1 := (Below.refl _ _).grown hg (Nat.le_refl _) (fun j hj => by cases hj)
  have own2 : w1.ownsRow w.heap.size 38 5 v' xs.length (cJobs xs) := by simpa using own1
  obtain ⟨ad', cap', rfl, _⟩ := own_jobs own2
  go_wp2
  go_ret
  exact ⟨_, _, rfl, own2, hb⟩
set_option maxRecDepth 100000 in
theorem bcopy_node (xs : List NodeD) (ad : Option Addr) (cap : Nat) (hlen : xs.length * 40 ≤ 140737488351232) (w : World) (hx : NodesAt w ad xs) :
    Calls Tryz.prog 29 #[.slice ad xs.length cap] w fun e w' => ∃ ad' cap', e = .returned (.slice ad' xs.length cap') ∧ w'.ownsRow w.heap.size 40 3 (.slice ad' xs.length cap') xs.length (cNodes xs) ∧ Below w.heap.size w w' := by
  obtain ⟨i0, hi, hz0, hz1, hz2⟩ := info_parts' Tryz.info_node
  have Hi := Lib.hid hi
  have Hz0 := Lib.hid hz0
  have Hz1 := Lib.hid hz1
  have Hz2 := Lib.hid hz2
  have HX := Lib.hid hx
  clear hi hz0 hz1 hz2 hx
  go_enter Tryz.func29, Tryz.ntmps29
  go_wp2_with (at_builtin; refine wpList_app rfl _ _ 23 rfl w.heap.size 40 i0 _ 3 40 Tryz.underlying23 Hi.out Hz0.out Hz1.out Hz2.out rfl (by decide) _ _ _ rfl (World.ownsRow_nil _ _ _ _) _ _ _ (cNodes xs) rfl ?c1 ?c2 ?c3 ?c4 ?c5 ?c6 ?_)
  case c1 => rw [cNodes_length]
  case c2 => exact src_node HX.out
  case c3 => exact cNodes_ones xs
  case c4 => unfold maxLen; omega
  case c5 => omega
  case c6 => exact Nat.le_refl _
  intro v' w1 own1 hg _
  have hb : Below w.heap.size w w1 := (Below.refl _ _).grown hg (Nat.le_refl _) (fun j hj => by cases hj)
  have own2 : w1.ownsRow w.heap.size 40 3 v' xs.length (cNodes xs) := by simpa using own1
  obtain ⟨ad', cap', rfl, _⟩ := own_nodes own2
  go_wp2
  go_ret
  exact ⟨_, _, rfl, own2, hb⟩
set_option maxRecDepth 100000 in
theorem bcopy_lease (xs : List LeaseD) (ad : Option Addr) (cap : Nat) (hlen : xs.length * 40 ≤ 140737488351232) (w : World) (hx : LeasesAt w ad xs) :
    Calls Tryz.prog 30 #[.slice ad xs.length cap] w fun e w' => ∃ ad' cap', e = .returned (.slice ad' xs.length cap') ∧ w'.ownsRow w.heap.size 42 3 (.slice ad' xs.length cap') xs.length (cLeases xs) ∧ Below w.heap.size w w' := by
  obtain ⟨i0, hi, hz0, hz1, hz2⟩ := info_parts' Tryz.info_lease
  have Hi := Lib.hid hi
  have Hz0 := Lib.hid hz0
  have Hz1 := Lib.hid hz1
  have Hz2 := Lib.hid hz2
  have HX := Lib.hid hx
  clear hi hz0 hz1 hz2 hx
  go_enter Tryz.func30, Tryz.ntmps30
  go_wp2_with (at_builtin; refine wpList_app rfl _ _ 24 rfl w.heap.size 42 i0 _ 3 40 Tryz.underlying24 Hi.out Hz0.out Hz1.out Hz2.out rfl (by decide) _ _ _ rfl (World.ownsRow_nil _ _ _ _) _ _ _ (cLeases xs) rfl ?c1 ?c2 ?c3 ?c4 ?c5 ?c6 ?_)
  case c1 => rw [cLeases_length]
  case c2 => exact src_lease HX.out
  case c3 => exact cLeases_ones xs
  case c4 => unfold maxLen; omega
  case c5 => omega
  case c6 => exact Nat.le_refl _
  intro v' w1 own1 hg _
  have hb : Below w.heap.size w w1 := (Below.refl _ _).grown hg (Nat.le_refl _) (fun j hj => by cases hj)
  have own2 : w1.ownsRow w.heap.size 42 3 v' xs.length (cLeases xs) := by simpa using own1
  obtain ⟨ad', cap', rfl, _⟩ := own_leases own2
  go_wp2
  go_ret
  exact ⟨_, _, rfl, own2, hb⟩
set_option maxRecDepth 100000 in
theorem sized_state2 {H : Type} {ts : List TypeId} {ds : List (DataW H)} (h : (DataW.weightsEach Tryz.prog ts ds).all (· ≤ reachBytes) = true) {j : Nat} {d : DataW H} {s : StD} (ht : ts[j]? = some 26) (hd : ds[j]? = some d) (hx : DSt d s) : s.jobs.length * 56 ≤ 140737488351232 ∧ s.nodes.length * 40 ≤ 140737488351232 ∧ s.leases.length * 40 ≤ 140737488351232 := by
  obtain ⟨dj, dn, dl, rfl, xj, xn, xl⟩ := hx
  have hall := List.all_eq_true.1 h
  have hm := DataW.weights_mem_each (P := Tryz.prog) ht hd
  simp only [DataW.weights, DataW.weightsEach, Tryz.underlying26, List.map_cons, List.map_nil, List.nil_append, List.append_nil, List.mem_append] at hm
  have hj := sizedJobs (d := dj) (xs := s.jobs) (fun z hz => by simpa using hall z (hm z (.inl hz))) xj
  have hn := sizedNodes (d := dn) (xs := s.nodes) (fun z hz => by simpa using hall z (hm z (.inr (.inl hz)))) xn
  have hl := sizedLeases (d := dl) (xs := s.leases) (fun z hz => by simpa using hall z (hm z (.inr (.inr hz)))) xl
  simp only [reachBytes] at hj hn hl
  exact ⟨hj.1, hn.1, hl.1⟩
theorem own_other' {w : World} {B B' e e' sz sz' n n' : Nat} {v v' : Value} {xs xs' : List Value} (h : w.ownsRow B e sz v n xs) (h' : w.ownsRow B' e' sz' v' n' xs') (hne : e ≠ e') : v.ownBlock = none ∨ v.ownBlock ≠ v'.ownBlock := by
  rcases h.2 with ⟨rfl, _⟩ | ⟨g, cap, cur, rfl, _, hg, _⟩
  · exact .inl rfl
  · rcases h'.2 with ⟨rfl, _⟩ | ⟨g', cap', cur', rfl, _, hg', _⟩
    · right; intro e; cases e
    · right
      intro he
      have he : some g = some g' := he
      simp only [Option.some.injEq] at he
      subst he
      rw [hg] at hg'
      simp only [Option.some.injEq, Obj.cells.injEq] at hg'
      exact hne hg'.2.1
/-- A row's block is no block of another type. -/
theorem own_box_ne {w : World} {B e sz n g cap : Nat} {xs : List Value} {vs : Array Value} {t : TypeId} (h : w.ownsRow B e sz (.slice (some ⟨g, 0, none⟩) n cap) n xs) (o : ObjAt g vs t w) (ht : t ≠ e) : False := by
  rcases h.2 with ⟨h0, hn0⟩ | ⟨g', cap', cur, hv, hb, hg, _⟩
  · simp at h0
  · simp only [Value.slice.injEq, Option.some.injEq, Addr.mk.injEq] at hv
    obtain ⟨⟨rfl, _⟩, _⟩ := hv
    have := hg.symm.trans o
    simp only [Option.some.injEq, Obj.cells.injEq] at this
    exact ht this.2.1.symm
theorem om_at {w : World} {B e sz n cap : Nat} {ad : Option Addr} {xs : List Value} (h : w.ownsRow B e sz (.slice ad n cap) n xs) (hn : 0 < n) : ∃ g, ad = some ⟨g, 0, none⟩ ∧ B ≤ g ∧ g < w.heap.size := by
  rcases h.2 with ⟨h0, hn0⟩ | ⟨g, cap', cur, hv, hb, hg, _⟩
  · omega
  · simp only [Value.slice.injEq] at hv
    exact ⟨g, hv.1, hb, (Array.getElem?_eq_some_iff.1 hg).1⟩
/-- The rows that State has given, whatever is stored in them. -/
def OmT (X0 : World) (nb : Nat) (s : StD) (ej en el : Option Addr) (fj fn fl : Nat) (wr : World) : Prop := Below X0.heap.size X0 wr ∧ ObjAt nb #[.int .i64 s.rev, .slice ej s.jobs.length fj, .slice en s.nodes.length fn, .slice el s.leases.length fl] 26 wr ∧ (∃ cs, wr.ownsRow X0.heap.size 38 5 (.slice ej s.jobs.length fj) s.jobs.length cs) ∧ ∃ cs, wr.ownsRow X0.heap.size 42 3 (.slice el s.leases.length fl) s.leases.length cs
theorem om_jobs {X0 wr : World} {nb : Nat} {s : StD} {ej en el : Option Addr} {fj fn fl g : Nat} (h : OmT X0 nb s ej en el fj fn fl wr) (hg : ej = some ⟨g, 0, none⟩) (hB : X0.heap.size ≤ g) (k : Nat) (u : Value) : OmT X0 nb s ej en el fj fn fl (wr.setCell ⟨g, k, none⟩ u) := by
  obtain ⟨b, o, ⟨cs, oj⟩, ⟨ds, ol⟩⟩ := h
  subst hg
  have st := oj.stored k u
  refine ⟨b.setCell (p := ⟨g, k, none⟩) hB u, objAt_other o (fun e => ?_) k u, ⟨_, st.1⟩, ⟨_, ol.kept st.2 (own_other' ol oj (by decide))⟩⟩
  subst e
  exact own_box_ne oj o (by decide)
theorem om_leases {X0 wr : World} {nb : Nat} {s : StD} {ej en el : Option Addr} {fj fn fl g : Nat} (h : OmT X0 nb s ej en el fj fn fl wr) (hg : el = some ⟨g, 0, none⟩) (hB : X0.heap.size ≤ g) (k : Nat) (u : Value) : OmT X0 nb s ej en el fj fn fl (wr.setCell ⟨g, k, none⟩ u) := by
  obtain ⟨b, o, ⟨cs, oj⟩, ⟨ds, ol⟩⟩ := h
  subst hg
  have st := ol.stored k u
  refine ⟨b.setCell (p := ⟨g, k, none⟩) hB u, objAt_other o (fun e => ?_) k u, ⟨_, oj.kept st.2 (own_other' oj ol (by decide))⟩, ⟨_, st.1⟩⟩
  subst e
  exact own_box_ne ol o (by decide)
set_option maxRecDepth 100000 in
set_option maxHeartbeats 16000000 in
theorem walk (M : StM) (s : StD) (ad : Option Addr) (cap : Nat) (xs : List ReqD) (hws : wState s) (hwx : ∀ x ∈ xs, wReq x) (hzs : s.jobs.length * 56 ≤ 140737488351232 ∧ s.nodes.length * 40 ≤ 140737488351232 ∧ s.leases.length * 40 ≤ 140737488351232) (hzx : xs.length ≤ 140737488351232) (w : World) (hm : StateAt w M s) (hx : ReqsAt w ad xs) (hT : Tabs w) :
    Calls Tryz.prog 9 #[stV M s, .slice ad xs.length cap] w fun e w' => e = .returned (.bool true) ∧ Below w.heap.size w w' := by
  obtain ⟨aj, cj, an, cn, al, cl⟩ := M
  have hm : JobsAt w aj s.jobs ∧ NodesAt w an s.nodes ∧ LeasesAt w al s.leases := hm
  show Calls _ _ #[.agg #[.int .i64 s.rev, .slice aj s.jobs.length cj, .slice an s.nodes.length cn, .slice al s.leases.length cl], .slice ad xs.length cap] _ _
  have bb0 := below_one w (.cells #[.int .i64 s.rev, .slice aj s.jobs.length cj, .slice an s.nodes.length cn, .slice al s.leases.length cl] 26)
  have I0 := bxS_new (cj := cj) (cn := cn) (cl := cl) (w := w) hm
  obtain ⟨W0, hW0⟩ : ∃ W0, w.alloc (.cells #[.int .i64 s.rev, .slice aj s.jobs.length cj, .slice an s.nodes.length cn, .slice al s.leases.length cl] 26) = W0 := ⟨_, rfl⟩
  rw [hW0] at bb0 I0
  have C := Lib.hid (served_is W0 (hT.below bb0))
  have HS := Lib.hid hws
  have HT := Lib.hid hT
  have HM0 := Lib.hid hm
  have I0 := Lib.hid I0
  have B0 := Lib.hid bb0
  have HX := Lib.hid hx
  have HWX := Lib.hid hwx
  have HZ := Lib.hid hzs
  clear hx hwx hzs
  clear hws hT hm bb0
  go_enter Tryz.func9, Tryz.ntmps9
  go_wp2_with fail
  refine C.out.mono ?_
  rintro e w1 ⟨rfl, b1⟩
  have I1 := Lib.hid (bxS_next I0.out b1)
  have B1 := Lib.hid (below_trans B0.out b1 B0.out.size)
  clear b1 C I0 B0
  have HJ := Lib.hid (fun W' (h : (W'.cell? ⟨w.heap.size, 1, none⟩ = some (.slice aj s.jobs.length cj) ∧ W'.cell? ⟨w.heap.size, 2, none⟩ = some (.slice an s.nodes.length cn) ∧ W'.cell? ⟨w.heap.size, 3, none⟩ = some (.slice al s.leases.length cl)) ∧ Below w1.heap.size w1 W') => bcopy_job s.jobs aj cj HZ.out.1 W' (jobsAt_next (jobsAt_next HM0.out.1 B1.out) h.2))
  have HN := Lib.hid (fun W' (h : (W'.cell? ⟨w.heap.size, 1, none⟩ = some (.slice aj s.jobs.length cj) ∧ W'.cell? ⟨w.heap.size, 2, none⟩ = some (.slice an s.nodes.length cn) ∧ W'.cell? ⟨w.heap.size, 3, none⟩ = some (.slice al s.leases.length cl)) ∧ Below w1.heap.size w1 W') => bcopy_node s.nodes an cn HZ.out.2.1 W' (nodesAt_next (nodesAt_next HM0.out.2.1 B1.out) h.2))
  have HL := Lib.hid (fun W' (h : (W'.cell? ⟨w.heap.size, 1, none⟩ = some (.slice aj s.jobs.length cj) ∧ W'.cell? ⟨w.heap.size, 2, none⟩ = some (.slice an s.nodes.length cn) ∧ W'.cell? ⟨w.heap.size, 3, none⟩ = some (.slice al s.leases.length cl)) ∧ Below w1.heap.size w1 W') => bcopy_lease s.leases al cl HZ.out.2.2 W' (leasesAt_next (leasesAt_next HM0.out.2.2 B1.out) h.2))
  have l1 := objAt_lt I1.out.1
  have hk : ∀ W W' : World, ((W.cell? ⟨w.heap.size, 1, none⟩ = some (.slice aj s.jobs.length cj) ∧ W.cell? ⟨w.heap.size, 2, none⟩ = some (.slice an s.nodes.length cn) ∧ W.cell? ⟨w.heap.size, 3, none⟩ = some (.slice al s.leases.length cl)) ∧ Below w1.heap.size w1 W) → Below W.heap.size W W' → (W'.cell? ⟨w.heap.size, 1, none⟩ = some (.slice aj s.jobs.length cj) ∧ W'.cell? ⟨w.heap.size, 2, none⟩ = some (.slice an s.nodes.length cn) ∧ W'.cell? ⟨w.heap.size, 3, none⟩ = some (.slice al s.leases.length cl)) ∧ Below w1.heap.size w1 W' := by
    intro W W' h k
    have hs := h.2.size
    obtain ⟨⟨h1, h2, h3⟩, hB⟩ := h
    exact ⟨⟨by rw [k.cell (p := ⟨w.heap.size, 1, none⟩) (by show w.heap.size < _; omega)]; exact h1, by rw [k.cell (p := ⟨w.heap.size, 2, none⟩) (by show w.heap.size < _; omega)]; exact h2, by rw [k.cell (p := ⟨w.heap.size, 3, none⟩) (by show w.heap.size < _; omega)]; exact h3⟩, below_trans hB k hs⟩
  have HH := Lib.hid hk
  clear hk
  have s0 : (w1.drew.cell? ⟨w.heap.size, 1, none⟩ = some (.slice aj s.jobs.length cj) ∧ w1.drew.cell? ⟨w.heap.size, 2, none⟩ = some (.slice an s.nodes.length cn) ∧ w1.drew.cell? ⟨w.heap.size, 3, none⟩ = some (.slice al s.leases.length cl)) ∧ Below w1.heap.size w1 w1.drew := ⟨⟨objAt_cell I1.out.1 1 rfl, objAt_cell I1.out.1 2 rfl, objAt_cell I1.out.1 3 rfl⟩, (Below.refl _ _).drew⟩
  go_wp2_with fail
  go_region_held3 (fun w' => (w'.cell? ⟨w.heap.size, 1, none⟩ = some (.slice aj s.jobs.length cj) ∧ w'.cell? ⟨w.heap.size, 2, none⟩ = some (.slice an s.nodes.length cn) ∧ w'.cell? ⟨w.heap.size, 3, none⟩ = some (.slice al s.leases.length cl)) ∧ Below w1.heap.size w1 w')
    (first | assumption | exact s0)
    (first
      | (go_at_call 28; (with_reducible refine (HJ.out _ (by assumption)).mono ?_); rintro e x1 ⟨j1, j2, rfl, R1, b1⟩; have o2 := HH.out _ _ (by assumption) b1; have K1 := Lib.hid (ownsRow_low (B' := 0) R1 (Nat.zero_le _)))
      | (go_at_call 29; (with_reducible refine (HN.out _ (by assumption)).mono ?_); rintro e x2 ⟨n1, n2, rfl, R2, b2⟩; have o3 := HH.out _ _ (by assumption) b2; have K2 := Lib.hid (And.intro (own_next K1.out b2) (ownsRow_low (B' := 0) R2 (Nat.zero_le _))))
      | (go_at_call 30; (with_reducible refine (HL.out _ (by assumption)).mono ?_); rintro e x3 ⟨l1, l2, rfl, R3, b3⟩; have o4 := HH.out _ _ (by assumption) b3; have K3 := Lib.hid (show OwnS 0 j1 n1 l1 j2 n2 l2 s x3 from And.intro (own_next K2.out.1 b3) (And.intro (own_next K2.out.2 b3) (ownsRow_low (B' := 0) R3 (Nat.zero_le _))))))
  rename_i hS
  have BK := Lib.hid (below_trans B1.out hS.2 B1.out.size)
  have IK := Lib.hid (bxS_next I1.out hS.2)
  clear hS s0 o2 o3 o4 HJ HN HL K1 K2 B1 I1 HH
  by_cases hv : checkE V8 s = 0
  case neg =>
    have hv' : ((checkE V8 s : Int) != 0) = true := by simp; omega
    have C := Lib.hid (svNew_bad s aj an al cj cn cl HS.out hv x3 (HT.out.below BK.out) IK.out.2)
    obtain ⟨k, hk⟩ : ∃ k, checkE V8 s = k := ⟨_, rfl⟩
    rw [hk] at hv' C
    clear hv hk
    obtain ⟨z0, z1, z2, z3⟩ := bxS_cells IK.out
    go_wp2_with fail
    refine C.out.mono ?_
    rintro e w2 ⟨rfl, b2⟩
    have B2 := Lib.hid (below_trans BK.out b2 BK.out.size)
    clear b2 C z0 z1 z2 z3
    go_wp2
    go_ret
    exact ⟨rfl, B2.out⟩
  have C := Lib.hid (svNew_ok s aj an al cj cn cl hv x3 (HT.out.below BK.out) IK.out.2)
  have HV := Lib.hid hv
  clear hv
  obtain ⟨z0, z1, z2, z3⟩ := bxS_cells IK.out
  go_wp2_with fail
  refine C.out.mono ?_
  rintro e w2 ⟨b, rfl, hb, sv, b2⟩
  have I2 := Lib.hid (bxS_next IK.out b2)
  have sv2 := svIn_new HV.out sv (below_trans BK.out b2 BK.out.size) HT.out (Nat.le_trans BK.out.size hb)
  obtain ⟨v0, hv0⟩ : ∃ v, (⟨s, 0⟩ : SvD) = v := ⟨_, rfl⟩
  rw [hv0] at sv2
  have S0 := Lib.hid sv2
  have E0 := Lib.hid hv0
  have OC0 := Lib.hid (ownS_next K3.out b2)
  clear K3
  clear b2 C z0 z1 z2 z3 sv hb BK IK sv2 hv0
  have SB0 := Lib.hid I2.out.1
  clear I2
  have hv0b := S0.out
  have hoc := OC0.out
  have hsb := SB0.out
  clear OC0 SB0
  go_wp2
  go_loopw [41] (fun iv wr => ∃ (i : Nat) (v : SvD), iv = .int .i64 (i : Int) ∧ i ≤ xs.length ∧ SvIn w b v wr ∧ OwnS 0 j1 n1 l1 j2 n2 l2 s wr ∧ ObjAt w.heap.size #[.int .i64 s.rev, .slice aj s.jobs.length cj, .slice an s.nodes.length cn, .slice al s.leases.length cl] 26 wr) (fun iv _ => xs.length - (intOf iv).toNat)
  case atStart => exact ⟨0, v0, rfl, by omega, hv0b, hoc, hsb⟩
  case round =>
    clear hv0b hoc hsb S0 E0
    obtain ⟨i, v, rfl, hi, svr, ocr, sbr⟩ := hrel
    by_cases hlt : (i : Int) < (xs.length : Int)
    case pos =>
      have hin : i < xs.length := by omega
      obtain ⟨a, rfl, hal, k0, k1, k2, k3, k4, k5, k6, k7, k8, k9, k10, k11, k12, k13⟩ := reqsAt_next HX.out svr.2.2.2.1 i hin
      have hwq := HWX.out _ (List.getElem_mem hin)
      obtain ⟨q, hq⟩ : ∃ q, xs[i] = q := ⟨_, rfl⟩
      rw [hq] at k0 k1 k2 k3 k4 k5 k6 k7 k8 k9 k10 k11 k12 k13 hwq
      have HQ := Lib.hid hwq
      have hix : a.block < wr.heap.size := hal
      clear hq hwq
      have bq := below_one wr (.cells #[.int .i64 q.kind, .string q.job.name, .int .i64 q.job.prio, .int .i64 q.job.need, .int .i64 q.job.tries, .string q.job.tag, .string q.node.name, .int .i64 q.node.room, .string q.node.zone, .string q.lease.job, .string q.lease.node, .int .i64 q.lease.til, .string q.name, .int .i64 q.n] 44)
      have oq := objAt_new wr #[.int .i64 q.kind, .string q.job.name, .int .i64 q.job.prio, .int .i64 q.job.need, .int .i64 q.job.tries, .string q.job.tag, .string q.node.name, .int .i64 q.node.room, .string q.node.zone, .string q.lease.job, .string q.lease.node, .int .i64 q.lease.til, .string q.name, .int .i64 q.n] 44
      have svq := svIn_next svr bq
      have OCQ := Lib.hid (ownS_next ocr bq)
      have SBQ := Lib.hid (objAt_next sbr bq)
      obtain ⟨X0, hX0⟩ : ∃ X, wr.alloc (.cells #[.int .i64 q.kind, .string q.job.name, .int .i64 q.job.prio, .int .i64 q.job.need, .int .i64 q.job.tries, .string q.job.tag, .string q.node.name, .int .i64 q.node.room, .string q.node.zone, .string q.lease.job, .string q.lease.node, .int .i64 q.lease.til, .string q.name, .int .i64 q.n] 44) = X := ⟨_, rfl⟩
      rw [hX0] at bq oq svq OCQ SBQ
      have c0 := objAt_cell oq 0 rfl
      have c1 := objAt_cell oq 1 rfl
      have c2 := objAt_cell oq 2 rfl
      have c3 := objAt_cell oq 3 rfl
      have c4 := objAt_cell oq 4 rfl
      have c5 := objAt_cell oq 5 rfl
      have c6 := objAt_cell oq 6 rfl
      have c7 := objAt_cell oq 7 rfl
      have c8 := objAt_cell oq 8 rfl
      have c9 := objAt_cell oq 9 rfl
      have c10 := objAt_cell oq 10 rfl
      have c11 := objAt_cell oq 11 rfl
      have c12 := objAt_cell oq 12 rfl
      have c13 := objAt_cell oq 13 rfl
      have C3 := Lib.hid (do_is v svq.2.1 svq.2.2.1 q HQ.out b X0 svq.2.2.2.2.2.2 svq.1)
      have SQ := Lib.hid svq
      clear svr bq oq svq ocr sbr
      go_wp2_with fail
      refine C3.out.mono ?_
      clear C3 c0 c1 c2 c3 c4 c5 c6 c7 c8 c9 c10 c11 c12 c13
      rintro e w5 ⟨MD, rfl, sv5, ow5, g5⟩
      have P5 := do_bare SQ.out sv5 g5
      obtain ⟨r, hr⟩ : ∃ r, doR V8 v.s v.now q = r := ⟨_, rfl⟩
      rw [hr] at P5 ⊢
      obtain ⟨D, hD⟩ : ∃ D, told v.s r = D := ⟨_, rfl⟩
      rw [hD]
      obtain ⟨va, ca, ba⟩ := r
      simp only at P5
      have Sa := Lib.hid P5.1
      have OCa := Lib.hid (doTo_own P5.2 OCQ.out)
      have SBa := Lib.hid (doTo_obj P5.2 SBQ.out (by decide))
      clear hr hD sv5 ow5 g5 SQ P5 OCQ SBQ
      have C := Lib.hid (svState_in Sa.out)
      go_wp2_with fail
      refine C.out.mono ?_
      clear C
      rintro e w6b ⟨ej, en, el, fj, fn, fl, rfl, ow, b6⟩
      have bB := below_one w6b (.cells #[.int .i64 va.s.rev, .slice ej va.s.jobs.length fj, .slice en va.s.nodes.length fn, .slice el va.s.leases.length fl] 26)
      have oB := objAt_new w6b #[.int .i64 va.s.rev, .slice ej va.s.jobs.length fj, .slice en va.s.nodes.length fn, .slice el va.s.leases.length fl] 26
      obtain ⟨Xb, hXb⟩ : ∃ X, w6b.alloc (.cells #[.int .i64 va.s.rev, .slice ej va.s.jobs.length fj, .slice en va.s.nodes.length fn, .slice el va.s.leases.length fl] 26) = X := ⟨_, rfl⟩
      rw [hXb] at bB oB
      have bb := below_trans b6 bB b6.size
      have Sb := Lib.hid (svIn_next Sa.out bb)
      have OTb := Lib.hid (And.intro oB (ownS_next ow bB))
      have BTb := Lib.hid bb
      clear b6 bB oB ow bb
      have hL40 := (small_sv Sa.out.2.1).1
      have OMb := Lib.hid (show OmT w5 w6b.heap.size va.s ej en el fj fn fl Xb from ⟨BTb.out, OTb.out.1, ⟨_, OTb.out.2.1⟩, ⟨_, OTb.out.2.2.2⟩⟩)
      clear OTb BTb
      have t1 := objAt_cell OMb.out.2.1 1 rfl
      have om0 := OMb.out
      clear OMb
      go_wp2
      go_loopw [53] (fun iv wr => ∃ (m : Nat), iv = .int .i64 (m : Int) ∧ m ≤ va.s.jobs.length ∧ OmT w5 w6b.heap.size va.s ej en el fj fn fl wr) (fun iv _ => va.s.jobs.length - (intOf iv).toNat)
      case atStart => exact ⟨0, rfl, by omega, om0⟩
      case round =>
        clear om0 t1
        obtain ⟨m, rfl, hm, om⟩ := hrel
        by_cases hlm : (m : Int) < (va.s.jobs.length : Int)
        case pos =>
          have hml : m < va.s.jobs.length := by omega
          obtain ⟨bz, oz, ⟨cs, oj⟩, ⟨ds, ol⟩⟩ := om
          obtain ⟨g, hg, hB, hgs⟩ := om_at oj (by omega)
          have OM := Lib.hid (show OmT w5 w6b.heap.size va.s ej en el fj fn fl wr from ⟨bz, oz, ⟨cs, oj⟩, ⟨ds, ol⟩⟩)
          have HG := Lib.hid hg
          have HB := Lib.hid hB
          have t1 := objAt_cell oz 1 rfl
          have tl := objAt_lt oz
          rw [hg] at t1 oj
          have hlc := oj.1
          obtain ⟨u0, y0⟩ : ∃ u, wr.cell? ⟨g, m * 5, none⟩ = some u := ⟨cs[m * 5]'(by omega), by rw [oj.cellAt (m * 5) (by omega)]; exact List.getElem?_eq_getElem _⟩
          have f0 := oj.frozenAt (m * 5)
          obtain ⟨u1, y1⟩ : ∃ u, wr.cell? ⟨g, m * 5 + 1, none⟩ = some u := ⟨cs[m * 5 + 1]'(by omega), by rw [oj.cellAt (m * 5 + 1) (by omega)]; exact List.getElem?_eq_getElem _⟩
          have f1 := oj.frozenAt (m * 5 + 1)
          obtain ⟨u2, y2⟩ : ∃ u, wr.cell? ⟨g, m * 5 + 2, none⟩ = some u := ⟨cs[m * 5 + 2]'(by omega), by rw [oj.cellAt (m * 5 + 2) (by omega)]; exact List.getElem?_eq_getElem _⟩
          have f2 := oj.frozenAt (m * 5 + 2)
          obtain ⟨u3, y3⟩ : ∃ u, wr.cell? ⟨g, m * 5 + 3, none⟩ = some u := ⟨cs[m * 5 + 3]'(by omega), by rw [oj.cellAt (m * 5 + 3) (by omega)]; exact List.getElem?_eq_getElem _⟩
          have f3 := oj.frozenAt (m * 5 + 3)
          obtain ⟨u4, y4⟩ : ∃ u, wr.cell? ⟨g, m * 5 + 4, none⟩ = some u := ⟨cs[m * 5 + 4]'(by omega), by rw [oj.cellAt (m * 5 + 4) (by omega)]; exact List.getElem?_eq_getElem _⟩
          have f4 := oj.frozenAt (m * 5 + 4)
          have hm0 : (0 : Int) ≤ (m : Int) := by omega
          clear bz oz oj ol hg hB hlc
          go_wp2
          go_roundw
          case rel => exact ⟨m + 1, by simp, by omega, om_jobs (om_jobs (om_jobs (om_jobs (om_jobs (OM.out) HG.out HB.out _ _) HG.out HB.out _ _) HG.out HB.out _ _) HG.out HB.out _ _) HG.out HB.out _ _⟩
          case measure => simp [intOf]; omega
        have OMc := Lib.hid om
        clear om
        have t1 := objAt_cell OMc.out.2.1 3 rfl
        have om0 := OMc.out
        clear OMc
        go_wp2
        go_loopw [65] (fun iv wr => ∃ (m : Nat), iv = .int .i64 (m : Int) ∧ m ≤ va.s.leases.length ∧ OmT w5 w6b.heap.size va.s ej en el fj fn fl wr) (fun iv _ => va.s.leases.length - (intOf iv).toNat)
        case atStart => exact ⟨0, rfl, by omega, om0⟩
        case round =>
          clear om0 t1
          obtain ⟨m, rfl, hm, om⟩ := hrel
          by_cases hlm : (m : Int) < (va.s.leases.length : Int)
          case pos =>
            have hml : m < va.s.leases.length := by omega
            obtain ⟨bz, oz, ⟨cs, oj⟩, ⟨ds, ol⟩⟩ := om
            obtain ⟨g, hg, hB, hgs⟩ := om_at ol (by omega)
            have OM := Lib.hid (show OmT w5 w6b.heap.size va.s ej en el fj fn fl wr from ⟨bz, oz, ⟨cs, oj⟩, ⟨ds, ol⟩⟩)
            have HG := Lib.hid hg
            have HB := Lib.hid hB
            have t1 := objAt_cell oz 3 rfl
            have tl := objAt_lt oz
            rw [hg] at t1 ol
            have hlc := ol.1
            obtain ⟨u0, y0⟩ : ∃ u, wr.cell? ⟨g, m * 3, none⟩ = some u := ⟨ds[m * 3]'(by omega), by rw [ol.cellAt (m * 3) (by omega)]; exact List.getElem?_eq_getElem _⟩
            have f0 := ol.frozenAt (m * 3)
            obtain ⟨u1, y1⟩ : ∃ u, wr.cell? ⟨g, m * 3 + 1, none⟩ = some u := ⟨ds[m * 3 + 1]'(by omega), by rw [ol.cellAt (m * 3 + 1) (by omega)]; exact List.getElem?_eq_getElem _⟩
            have f1 := ol.frozenAt (m * 3 + 1)
            obtain ⟨u2, y2⟩ : ∃ u, wr.cell? ⟨g, m * 3 + 2, none⟩ = some u := ⟨ds[m * 3 + 2]'(by omega), by rw [ol.cellAt (m * 3 + 2) (by omega)]; exact List.getElem?_eq_getElem _⟩
            have f2 := ol.frozenAt (m * 3 + 2)
            have hm0 : (0 : Int) ≤ (m : Int) := by omega
            clear bz oz oj ol hg hB hlc
            go_wp2
            go_roundw
            case rel => exact ⟨m + 1, by simp, by omega, om_leases (om_leases (om_leases (OM.out) HG.out HB.out _ _) HG.out HB.out _ _) HG.out HB.out _ _⟩
            case measure => simp [intOf]; omega
          have OMd := Lib.hid om
          clear om
          have Sd := Lib.hid (svIn_next Sa.out OMd.out.1)
          have OCd := Lib.hid (ownS_next OCa.out OMd.out.1)
          have SBd := Lib.hid (objAt_next SBa.out OMd.out.1)
          have C := Lib.hid (svState_in Sd.out)
          clear OMd Sa OCa SBa Sb
          go_wp2_with fail
          refine C.out.mono ?_
          clear C
          rintro e w7 ⟨gj, gn, gl, qj, qn, ql, rfl, o7, b7⟩
          have Se := Lib.hid (svIn_next Sd.out b7)
          have OCe := Lib.hid (ownS_next OCd.out b7)
          have SBe := Lib.hid (objAt_next SBd.out b7)
          have C5 := Lib.hid ((by have h := check_any va.s.rev gj gn gl qj qn ql va.s.jobs va.s.nodes va.s.leases (wState_sv Se.out.2.1) w7 Se.out.2.2.2.2.2.2 (ownS_at o7).1 (ownS_at o7).2.1 (ownS_at o7).2.2; rw [show (⟨va.s.rev, va.s.jobs, va.s.nodes, va.s.leases⟩ : StD) = va.s from rfl, Se.out.2.1] at h; exact h : Calls Tryz.prog 31 #[.agg #[.int .i64 va.s.rev, .slice gj va.s.jobs.length qj, .slice gn va.s.nodes.length qn, .slice gl va.s.leases.length ql]] w7 fun e w' => e = .returned (.int .i64 ((0 : Nat) : Int)) ∧ Below w7.heap.size w7 w'))
          clear o7 b7 Sd OCd SBd
          go_wp2_with fail
          refine C5.out.mono ?_
          clear C5
          rintro e w8 ⟨rfl, b8⟩
          have S8 := svIn_next Se.out b8
          have OC8 := ownS_next OCe.out b8
          have SB8 := objAt_next SBe.out b8
          clear b8 Se OCe SBe
          go_wp2
          go_roundw
          case rel => exact ⟨i + 1, va, by simp, by omega, S8, OC8, SB8⟩
          case measure => simp [intOf]; omega
    have SR := Lib.hid svr
    have OR := Lib.hid ocr
    have SBR := Lib.hid sbr
    have k1 := objAt_cell sbr 1 rfl
    have hA := ownS_at ocr
    have C := Lib.hid (eqJobs_is s.jobs s.jobs aj j1 cj j2 (by have := HZ.out.1; omega) wr (jobsAt_next HM0.out.1 svr.2.2.2.1) hA.1)
    clear svr ocr sbr hA HX HWX
    go_wp2_with fail
    refine C.out.mono ?_
    clear C k1
    rintro e w7 ⟨c1, rfl, hc1, b7⟩
    obtain rfl : c1 = true := by simpa using hc1
    have k1 := objAt_cell (objAt_next SBR.out b7) 2 rfl
    have B7 := Lib.hid b7
    have C := Lib.hid (eqNodes_is s.nodes s.nodes an n1 cn n2 (by have := HZ.out.2.1; omega) w7 (nodesAt_next HM0.out.2.1 (svIn_next SR.out b7).2.2.2.1) (ownS_at (ownS_next OR.out b7)).2.1)
    clear b7 hc1
    go_wp2_with fail
    refine C.out.mono ?_
    clear C k1
    rintro e w8 ⟨c1, rfl, hc1, b8⟩
    obtain rfl : c1 = true := by simpa using hc1
    have b78 := below_trans B7.out b8 B7.out.size
    have k1 := objAt_cell (objAt_next SBR.out b78) 3 rfl
    have B8 := Lib.hid b78
    have C := Lib.hid (eqLeases_is s.leases s.leases al l1 cl l2 (by have := HZ.out.2.2; omega) w8 (leasesAt_next HM0.out.2.2 (svIn_next SR.out b78).2.2.2.1) (ownS_at (ownS_next OR.out b78)).2.2)
    clear b8 hc1 b78
    go_wp2_with fail
    refine C.out.mono ?_
    clear C k1
    rintro e w9 ⟨c1, rfl, hc1, b9⟩
    obtain rfl : c1 = true := by simpa using hc1
    have B9 := Lib.hid (svIn_next (svIn_next SR.out B8.out) b9).2.2.2.1
    clear b9 hc1
    go_wp2
    go_ret
    exact ⟨rfl, B9.out⟩

theorem own : ownKnob Tryz.prog.godebug = none := by kernel_rfl
theorem laidOut : laidOutB Tryz.prog = true := by kernel_rfl
theorem laid_met (os : Os) : laidMet Tryz.prog Rows.ownMemoryRow.laid ((laidWorld os).forCall (fun _ _ => 0) ⟨#[], #[.agg #[.int .i64 0, .slice none 0 0, .slice none 0 0, .slice none 0 0], .slice none 0 0], []⟩).memory :=
  laidMet_of_run' 8 (by kernel_rfl) (by kernel_rfl)
theorem reads (os : Os) {H : Type} (enc : TypeId × Value → H) : ∃ places, DataW.whole enc Tryz.prog ((laidWorld os).forCall (fun _ _ => 0) ⟨#[], #[.agg #[.int .i64 0, .slice none 0 0, .slice none 0 0, .slice none 0 0], .slice none 0 0], []⟩).memory Tryz.f9.params.toList Rows.ownMemorySpec.vars false #[Value.agg #[.int .i64 0, .slice none 0 0, .slice none 0 0, .slice none 0 0], Value.slice none 0 0].toList 8 = some ([.agg [.lit (.int .i64 0), .nil, .nil, .nil], .nil], [], places) :=
  ⟨[], by kernel_rfl⟩
set_option maxRecDepth 100000 in
set_option maxHeartbeats 2000000 in
theorem lifted (os : Os) (started : os.Started) (H : Type) (enc : TypeId × Value → H) (F : Stop.Interp) :
    ReturnsInHanded {} Tryz.checked os 9 .any ((OpenSpec.ofChange Rows.ownMemorySpec).preRow enc Tryz.prog Tryz.f9 Rows.ownMemoryRow.domain false Rows.ownMemoryRow.laid) (((OpenSpec.ofChange Rows.ownMemorySpec).at F).post enc Tryz.prog Tryz.f9 false true false false) := by
  obtain ⟨places, hx⟩ := reads os enc
  refine returnsInHanded_of_row (C := Tryz.checked) (s := (OpenSpec.ofChange Rows.ownMemorySpec)) own started (by kernel_rfl) Tryz.func9
    (witness_row_atRef (enc := enc) (C := Tryz.checked) false (laidWorld os) #[.agg #[.int .i64 0, .slice none 0 0, .slice none 0 0, .slice none 0 0], .slice none 0 0] rfl (by kernel_rfl) (by kernel_rfl) (by kernel_rfl)
      (OpenSpec.preRow_of_cond 8 hx (by kernel_rfl) (fun k hk => by cases hk) (by kernel_rfl) (laid_met os))) ?_
  intro W base args ds gs before hval0 hW _ _ hsz0 hL _ _
  have hval : ∀ (j : Nat) t v, Tryz.f9.params[j]? = some t → args[j]? = some v → Value.okWide Tryz.prog W .any base t v := hval0
  have hW' := hW
  obtain ⟨p, q, hA0, hV, rfl, hfz, hnd⟩ := hW
  have hA : DataW.TrodAll enc Tryz.prog W 0 (fun _ => true) true Tryz.f9.params.toList args.toList ds p := hA0
  have hsz : (DataW.weightsEach Tryz.prog (Tryz.f9.params.toList ++ Rows.ownMemorySpec.plain.varTypes Tryz.prog) (ds ++ gs)).all (· ≤ reachBytes) = true := hsz0
  rw [Tryz.params9] at hA hval hsz
  obtain ⟨v0, vs0, d0, ds0, p0, q0, hargs, rfl, rfl, h0, r0⟩ := trodAll_cons hA
  obtain ⟨v1, vs1, d1, ds1, p1, q1, rfl, rfl, rfl, h1, r1⟩ := trodAll_cons r0
  obtain ⟨rfl, rfl, rfl⟩ := trodAll_nil r1
  obtain rfl : args = #[v0, v1] := by cases args; simp_all
  obtain ⟨rfl, rfl⟩ := trodVars_none hV
  obtain ⟨M0, st0, rfl, m0, x0, w0⟩ := open_state (hval 0 26 v0 rfl rfl) h0
  obtain ⟨ad1, cap1, xs1, rfl, m1, x1, w1⟩ := open_requests (hval 1 27 v1 rfl rfl) h1
  have s0 := sized_state2 hsz rfl (j := 0) rfl x0
  have s1 := sized_requests hsz rfl (j := 1) rfl x1
  clear hA0 hval0
  refine (walk M0 st0 ad1 cap1 xs1 w0 w1 s0 s1 W m0 m1 (tabs_of hL)).mono fun e W' ⟨he, bel⟩ => ?_
  subst he
  exact ⟨_, rfl, _, _, _, [], _, [], hW', trodAll_mk1 (shut_bool Tryz.underlying4 _), (trodAll_cons_mk (Below.trod laidOut (by kernel_rfl) (of_decide_eq_true (by kernel_rfl)) h0 bel (fun x hx => by simpa using hW'.lt x (by simp [hx]))) (trodAll_cons_mk (Below.trod laidOut (by kernel_rfl) (of_decide_eq_true (by kernel_rfl)) h1 bel (fun x hx => by simpa using hW'.lt x (by simp [hx]))) trodAll_mk0)), rfl, bel.frame _, fun h => by cases h⟩
theorem said : Rows.OwnMemorySaid :=
  OpenClaim.holds_of_cond 9 Tryz.f9 rfl rfl rfl rfl rfl rfl rfl ⟨rfl, rfl, rfl, rfl, rfl⟩ rfl rfl rfl rfl rfl (by kernel_rfl) Tryz.func9 (by kernel_rfl)
    (of_decide_eq_true (by kernel_rfl)) (by unfold Func.isWrapper; first | (rw [if_pos (by decide +kernel)]; kernel_rfl) | (rw [if_neg (by decide +kernel)]; exact ⟨rfl, rfl⟩))
    (fun os started H enc _ F => by rw [OpenClaim.pre_eq_preRow]; exact lifted os started H enc F)
theorem plain (f : FuncId) (fn : Func) (hf : Tryz.pinned.checked.prog.funcNamed Rows.ownMemoryRow.func = some f) (hfn : Tryz.pinned.checked.prog.funcs[f]? = some fn) :
    false = Tryz.pinned.checked.prog.looks [] ∧ ∀ (j : Nat) t, fn.params[j]? = some t → Tryz.pinned.checked.prog.wantsStandIn t = false := by
  obtain rfl : f = 9 := Option.some.inj ((show Tryz.prog.funcNamed Rows.ownMemoryRow.func = some 9 by kernel_rfl).symm.trans hf) |>.symm
  obtain rfl : fn = Tryz.f9 := (Option.some.inj (Tryz.func9.symm.trans hfn)).symm
  refine ⟨by kernel_rfl, fun j t ht => ?_⟩
  rw [Tryz.params9] at ht
  have hm : t = 26 ∨ t = 27 := by simpa using Array.mem_of_getElem? ht
  rcases hm with rfl | rfl
  · exact (show Tryz.prog.wantsStandIn 26 = false by kernel_rfl)
  · exact (show Tryz.prog.wantsStandIn 27 = false by kernel_rfl)
theorem proved : Rows.OwnMemoryCardSaid :=
  Claim7.holds_tied_plain_at .later [] _ _ _ _ said (fun _ h => by cases h) (by kernel_rfl) (fun _ h => by cases h) ownMemory_row_tie rfl ⟨rfl, rfl⟩ (by kernel_rfl) rfl plain (by kernel_rfl)
#print axioms proved
end Go.Proofs.YtiilagmmgpnpdaaGreatDoor.ownMemory
