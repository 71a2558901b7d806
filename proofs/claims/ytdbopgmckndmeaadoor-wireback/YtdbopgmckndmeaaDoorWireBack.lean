/- For every state, every string and every number the law WireBack of the package brackenkeep returns true, as a tied card: a state is decoded as it was encoded, and what is decoded is encoded so. Condition: the library's two tables unicode/utf8.first and acceptRanges start as their text lays them (the card ties them; first is pinned). -/
import Derived.Test.YtdbopgmckndmeaaDoorPkWi5
namespace Go.Proofs.YtdbopgmckndmeaaDoor.wireBack
open Go.ChangeShapes Go.WideShapes Go.ChangeAt Go.RowKit
open Go.ChangeMaps (open_string shut_string)
set_option linter.unusedVariables false

theorem reach {s : ByteArray} (h : s.data.toList.length ≤ reachBytes) : s.size ≤ 140737488351232 := by
  have h2 : s.data.toList.length ≤ 140737488351232 := h
  have e : s.data.toList.length = s.size := size_l s
  omega
theorem wdec_in {v : Int} (h : 1 ≤ v ∧ v ≤ 3) (l : List UInt8) : wdecR v l = wireD V8 v l := by unfold wdecR; rw [if_pos h]
set_option maxRecDepth 100000 in
set_option maxHeartbeats 8000000 in
theorem walk (M : StM) (s : StD) (a1 : ByteArray) (v0 : Int) (hw : wState s) (ha1 : a1.size ≤ maxLen) (hv0 : (Lit.int .i64 v0).wf = true) (hz : SzState s) (s1 : a1.data.toList.length ≤ reachBytes) (w : World) (hm : StateAt w M s) (hT : Tabs w) :
    Calls Tryd.prog 6 #[stV M s, .string a1, .int .i64 v0] w fun e w' => e = .returned (.bool true) ∧ Below w.heap.size w w' := by
  obtain ⟨aj, cj, an, cn, al, cl⟩ := M
  obtain ⟨hmj, hmn, hml⟩ := hm
  show Calls _ _ #[.agg #[.int .i64 s.rev, .slice aj s.jobs.length cj, .slice an s.nodes.length cn, .slice al s.leases.length cl], .string a1, .int .i64 v0] _ _
  simp only at hmj hmn hml
  have hr1 := reach s1
  obtain ⟨W, hW⟩ : ∃ W, w.alloc (.cells #[.int .i64 s.rev, .slice aj s.jobs.length cj, .slice an s.nodes.length cn, .slice al s.leases.length cl] 26) = W := ⟨_, rfl⟩
  have q1 := box_new4 w (.int .i64 s.rev) (.slice aj s.jobs.length cj) (.slice an s.nodes.length cn) (.slice al s.leases.length cl) 26
  have bW : Below w.heap.size w W := by rw [← hW]; exact below_one _ _
  rw [hW] at q1
  have HWi := Lib.hid (wired_is W (hT.below bW))
  obtain ⟨k, hk, hk0, hk3⟩ := mod3 v0
  have HR := Lib.hid (fun W' => rest_is v0 3 (by omega) (by omega) W')
  rw [hk] at HR
  have wk : IntKind.i64.wrap (k + 1) = k + 1 := IntWalk.i64_in _ (by omega)
  have hv : 1 ≤ k + 1 ∧ k + 1 ≤ 3 := by omega
  have HE := Lib.hid (fun W' (hb : Below w.heap.size w W') => wencode_any s aj an al cj cn cl (k + 1) hw W' (hT.below hb) (jobsAt_next hmj hb) (nodesAt_next hmn hb) (leasesAt_next hml hb))
  have HS := Lib.hid (fun t bj bn bl dj dn dl W' (hb : Below w.heap.size w W') (h1 : JobsAt W' bj t.jobs) (h2 : NodesAt W' bn t.nodes) (h3 : LeasesAt W' bl t.leases) => same_is s t aj an al bj bn bl cj cn cl dj dn dl (size3 hz) W' (jobsAt_next hmj hb) (nodesAt_next hmn hb) (leasesAt_next hml hb) h1 h2 h3)
  have HD := Lib.hid (fun W' (hb : Below w.heap.size w W') => wdecode_any a1 (by omega) (k + 1) W' (hT.below hb))
  obtain ⟨t, f, ht⟩ : ∃ t f, wdecR (k + 1) a1.data.toList = (t, f) := ⟨_, _, rfl⟩
  have hwt : wState t := by have := wState_dec (k + 1) a1.data.toList; rwa [ht] at this
  rw [ht] at HD
  rw [wdec_in hv] at ht
  have HT := Lib.hid hT
  have HW := Lib.hid hW
  have HE2 := Lib.hid (fun bj bn bl dj dn dl W' (hb : Below w.heap.size w W') (h1 : JobsAt W' bj t.jobs) (h2 : NodesAt W' bn t.nodes) (h3 : LeasesAt W' bl t.leases) => wencode_any t bj bn bl dj dn dl (k + 1) hwt W' (hT.below hb) h1 h2 h3)
  have HF : Hid ((f ≠ 0 ∧ t = zeroSt) ∨ (f = 0 ∧ wencR t (k + 1) = (a1, 0))) := by
    by_cases h0 : f = 0
    · subst h0
      obtain ⟨c1, c2, c3⟩ := wire_ok ht
      refine .inr ⟨rfl, ?_⟩
      rcases wenc_cases t (k + 1) with ⟨c, hc, e1⟩ | ⟨e1, _⟩
      · exfalso
        apply hc
        have e2 : (wencR t (k + 1)).2 = c := by rw [e1]
        rw [← e2]
        unfold wencR fitsR
        rw [if_neg (by omega : ¬ checkE V8 t ≠ 0), if_pos hv]
        simp [c2]
      · rw [e1, c3]
    · exact .inl ⟨h0, wire_err ht h0⟩
  clear hmj hmn hml hT hw hz hW s1 ha1 hv0 hk hwt ht hr1
  go_enter Tryd.func6, Tryd.ntmps6
  go_wp2_with fail
  rw [HW.out]
  refine HWi.out.mono ?_
  rintro e w1 ⟨rfl, b1⟩
  have B1 := below_trans bW b1 bW.size
  have p1 := box_next q1 b1
  have k0 := p1.1 0 _ rfl
  have k1 := p1.1 1 _ rfl
  have k2 := p1.1 2 _ rfl
  have k3 := p1.1 3 _ rfl
  clear HW q1 b1 bW HWi
  go_wp2_with fail
  refine (HR.out _).mono ?_
  rintro e w' ⟨rfl, rfl⟩
  have HE' := HE.out w1 B1
  rcases wenc_cases s (k + 1) with ⟨c, hc, e1⟩ | ⟨e1, hc1, hf1, hok, _⟩
  · rw [e1] at HE'
    have HE' := Lib.hid HE'
    have hc' : ((c : Int) == 0) = false := by simp; omega
    clear e1 hc
    go_wp2_with fail
    refine HE'.out.mono ?_
    rintro e w2 ⟨rfl, b2⟩
    have B2 := below_trans B1 b2 B1.size
    clear k0 k1 k2 k3 HE' p1 b2 B1
    have HDa := Lib.hid (HD.out w2 B2)
    rcases HF.out with ⟨hf0, rfl⟩ | ⟨rfl, he⟩
    · have hf' : ((f : Int) != 0) = true := by simp; omega
      go_wp2_with fail
      refine HDa.out.mono ?_
      rintro e y1 ⟨bj, bn, bl, dj, dn, dl, rfl, oj, on, ol, c1⟩
      have C1 := below_trans B2 c1 (B2).size
      have c2 := below_one y1 (.cells #[.int .i64 zeroSt.rev, .slice bj zeroSt.jobs.length dj, .slice bn zeroSt.nodes.length dn, .slice bl zeroSt.leases.length dl] 26)
      have C2 := below_trans C1 c2 C1.size
      have u := box_new4 y1 (.int .i64 zeroSt.rev) (.slice bj zeroSt.jobs.length dj) (.slice bn zeroSt.nodes.length dn) (.slice bl zeroSt.leases.length dl) 26
      have mj := jobsAt_next (ownJobs oj rfl) c2
      have mn := nodesAt_next (ownNodes on rfl) c2
      have ml := leasesAt_next (ownLeases ol rfl) c2
      have HEa := Lib.hid (HE2.out bj bn bl dj dn dl _ C2 mj mn ml)
      have x0 := u.1 0 _ rfl
      have x1 := u.1 1 _ rfl
      have x2 := u.1 2 _ rfl
      have x3 := u.1 3 _ rfl
      obtain ⟨Y, hY⟩ : ∃ Y, y1.alloc (.cells #[.int .i64 zeroSt.rev, .slice bj zeroSt.jobs.length dj, .slice bn zeroSt.nodes.length dn, .slice bl zeroSt.leases.length dl] 26) = Y := ⟨_, rfl⟩
      rw [hY] at C2 u mj mn ml HEa x0 x1 x2 x3
      clear oj on ol c1 c2 HDa hf0
      go_wp2_with fail
      refine HEa.out.mono ?_
      rintro e y2 ⟨rfl, c3⟩
      have C3 := below_trans C2 c3 C2.size
      have u2 := box_next u c3
      have hnil : JobsAt y2 none zeroSt.jobs ∧ NodesAt y2 none zeroSt.nodes ∧ LeasesAt y2 none zeroSt.leases := ⟨fun i hi => absurd hi (by simp [zeroSt]), fun i hi => absurd hi (by simp [zeroSt]), fun i hi => absurd hi (by simp [zeroSt])⟩
      have HSa := Lib.hid (same_is zeroSt zeroSt bj bn bl none none none dj dn dl 0 0 0 ⟨by decide, by decide, by decide⟩ y2 (jobsAt_next mj c3) (nodesAt_next mn c3) (leasesAt_next ml c3) hnil.1 hnil.2.1 hnil.2.2)
      clear x0 x1 x2 x3 HEa hnil
      have x0 := u2.1 0 _ rfl
      have x1 := u2.1 1 _ rfl
      have x2 := u2.1 2 _ rfl
      have x3 := u2.1 3 _ rfl
      go_wp2_with fail
      refine HSa.out.mono ?_
      rintro e y3 ⟨c, rfl, hc, c4⟩
      obtain rfl : c = true := hc.2 (by first | rfl | trivial)
      go_wp2
      go_ret
      exact ⟨rfl, below_trans C3 c4 C3.size⟩
    · go_wp2_with fail
      refine HDa.out.mono ?_
      rintro e y1 ⟨bj, bn, bl, dj, dn, dl, rfl, oj, on, ol, c1⟩
      have C1 := below_trans B2 c1 (B2).size
      have c2 := below_one y1 (.cells #[.int .i64 t.rev, .slice bj t.jobs.length dj, .slice bn t.nodes.length dn, .slice bl t.leases.length dl] 26)
      have C2 := below_trans C1 c2 C1.size
      have u := box_new4 y1 (.int .i64 t.rev) (.slice bj t.jobs.length dj) (.slice bn t.nodes.length dn) (.slice bl t.leases.length dl) 26
      have mj := jobsAt_next (ownJobs oj rfl) c2
      have mn := nodesAt_next (ownNodes on rfl) c2
      have ml := leasesAt_next (ownLeases ol rfl) c2
      have HEa := HE2.out bj bn bl dj dn dl _ C2 mj mn ml
      rw [he] at HEa
      have HEa := Lib.hid HEa
      have hxy := lists_eq a1
      have x0 := u.1 0 _ rfl
      have x1 := u.1 1 _ rfl
      have x2 := u.1 2 _ rfl
      have x3 := u.1 3 _ rfl
      obtain ⟨Y, hY⟩ : ∃ Y, y1.alloc (.cells #[.int .i64 t.rev, .slice bj t.jobs.length dj, .slice bn t.nodes.length dn, .slice bl t.leases.length dl] 26) = Y := ⟨_, rfl⟩
      rw [hY] at C2 u mj mn ml HEa x0 x1 x2 x3
      clear oj on ol c1 c2 HDa he
      go_wp2_with fail
      refine HEa.out.mono ?_
      rintro e y2 ⟨rfl, c3⟩
      clear x0 x1 x2 x3
      go_wp2
      go_ret
      exact ⟨rfl, below_trans C2 c3 C2.size⟩
  · rw [e1] at HE'
    have HE' := Lib.hid HE'
    have hd : wdecR (k + 1) (⟨(stB (k + 1) s).toArray⟩ : ByteArray).data.toList = (s, 0) := by rw [wdec_in hv, bytes_data]; exact wire_back hc1 hf1
    have hXs : (⟨(stB (k + 1) s).toArray⟩ : ByteArray).size ≤ 1152921504606846976 := by rw [bytes_size]; have := st_len hok; omega
    generalize (⟨(stB (k + 1) s).toArray⟩ : ByteArray) = X at HE' hd hXs
    have HDx := Lib.hid hd
    clear e1 hc1 hf1 hok hd
    go_wp2_with fail
    refine HE'.out.mono ?_
    rintro e w2 ⟨rfl, b2⟩
    have B2 := below_trans B1 b2 B1.size
    have p2 := box_next p1 b2
    have HDa := wdecode_any X hXs (k + 1) w2 (HT.out.below B2)
    rw [HDx.out] at HDa
    have HDa := Lib.hid HDa
    clear k0 k1 k2 k3 HE' p1 b2 B1 HDx
    go_wp2_with fail
    refine HDa.out.mono ?_
    rintro e w3 ⟨bj, bn, bl, dj, dn, dl, rfl, oj, on, ol, b3⟩
    have B3 := below_trans B2 b3 B2.size
    have p3 := box_next p2 b3
    have b4 := below_one w3 (.cells #[.int .i64 s.rev, .slice bj s.jobs.length dj, .slice bn s.nodes.length dn, .slice bl s.leases.length dl] 26)
    have B4 := below_trans B3 b4 B3.size
    have p4 := box_next p3 b4
    have u := box_new4 w3 (.int .i64 s.rev) (.slice bj s.jobs.length dj) (.slice bn s.nodes.length dn) (.slice bl s.leases.length dl) 26
    have HSa := Lib.hid (HS.out s bj bn bl dj dn dl _ B4 (jobsAt_next (ownJobs oj rfl) b4) (nodesAt_next (ownNodes on rfl) b4) (leasesAt_next (ownLeases ol rfl) b4))
    obtain ⟨X4, hX4⟩ : ∃ X4, w3.alloc (.cells #[.int .i64 s.rev, .slice bj s.jobs.length dj, .slice bn s.nodes.length dn, .slice bl s.leases.length dl] 26) = X4 := ⟨_, rfl⟩
    have k0 := p4.1 0 _ rfl
    have k1 := p4.1 1 _ rfl
    have k2 := p4.1 2 _ rfl
    have k3 := p4.1 3 _ rfl
    have m0 := u.1 0 _ rfl
    have m1 := u.1 1 _ rfl
    have m2 := u.1 2 _ rfl
    have m3 := u.1 3 _ rfl
    rw [hX4] at B4 HSa k0 k1 k2 k3 m0 m1 m2 m3
    clear oj on ol b3 b4 p2 p3 p4 u HDa B2 B3
    go_wp2_with fail
    refine HSa.out.mono ?_
    rintro e w5 ⟨c, rfl, hc, b5⟩
    obtain rfl : c = true := hc.2 (by first | rfl | trivial)
    have B5 := below_trans B4 b5 B4.size
    clear k0 k1 k2 k3 m0 m1 m2 m3 HSa b5 B4 hc hX4
    have HDa := Lib.hid (HD.out w5 B5)
    rcases HF.out with ⟨hf0, rfl⟩ | ⟨rfl, he⟩
    · have hf' : ((f : Int) != 0) = true := by simp; omega
      go_wp2_with fail
      refine HDa.out.mono ?_
      rintro e y1 ⟨bj, bn, bl, dj, dn, dl, rfl, oj, on, ol, c1⟩
      have C1 := below_trans B5 c1 (B5).size
      have c2 := below_one y1 (.cells #[.int .i64 zeroSt.rev, .slice bj zeroSt.jobs.length dj, .slice bn zeroSt.nodes.length dn, .slice bl zeroSt.leases.length dl] 26)
      have C2 := below_trans C1 c2 C1.size
      have u := box_new4 y1 (.int .i64 zeroSt.rev) (.slice bj zeroSt.jobs.length dj) (.slice bn zeroSt.nodes.length dn) (.slice bl zeroSt.leases.length dl) 26
      have mj := jobsAt_next (ownJobs oj rfl) c2
      have mn := nodesAt_next (ownNodes on rfl) c2
      have ml := leasesAt_next (ownLeases ol rfl) c2
      have HEa := Lib.hid (HE2.out bj bn bl dj dn dl _ C2 mj mn ml)
      have x0 := u.1 0 _ rfl
      have x1 := u.1 1 _ rfl
      have x2 := u.1 2 _ rfl
      have x3 := u.1 3 _ rfl
      obtain ⟨Y, hY⟩ : ∃ Y, y1.alloc (.cells #[.int .i64 zeroSt.rev, .slice bj zeroSt.jobs.length dj, .slice bn zeroSt.nodes.length dn, .slice bl zeroSt.leases.length dl] 26) = Y := ⟨_, rfl⟩
      rw [hY] at C2 u mj mn ml HEa x0 x1 x2 x3
      clear oj on ol c1 c2 HDa hf0
      go_wp2_with fail
      refine HEa.out.mono ?_
      rintro e y2 ⟨rfl, c3⟩
      have C3 := below_trans C2 c3 C2.size
      have u2 := box_next u c3
      have hnil : JobsAt y2 none zeroSt.jobs ∧ NodesAt y2 none zeroSt.nodes ∧ LeasesAt y2 none zeroSt.leases := ⟨fun i hi => absurd hi (by simp [zeroSt]), fun i hi => absurd hi (by simp [zeroSt]), fun i hi => absurd hi (by simp [zeroSt])⟩
      have HSa := Lib.hid (same_is zeroSt zeroSt bj bn bl none none none dj dn dl 0 0 0 ⟨by decide, by decide, by decide⟩ y2 (jobsAt_next mj c3) (nodesAt_next mn c3) (leasesAt_next ml c3) hnil.1 hnil.2.1 hnil.2.2)
      clear x0 x1 x2 x3 HEa hnil
      have x0 := u2.1 0 _ rfl
      have x1 := u2.1 1 _ rfl
      have x2 := u2.1 2 _ rfl
      have x3 := u2.1 3 _ rfl
      go_wp2_with fail
      refine HSa.out.mono ?_
      rintro e y3 ⟨c, rfl, hc, c4⟩
      obtain rfl : c = true := hc.2 (by first | rfl | trivial)
      go_wp2
      go_ret
      exact ⟨rfl, below_trans C3 c4 C3.size⟩
    · go_wp2_with fail
      refine HDa.out.mono ?_
      rintro e y1 ⟨bj, bn, bl, dj, dn, dl, rfl, oj, on, ol, c1⟩
      have C1 := below_trans B5 c1 (B5).size
      have c2 := below_one y1 (.cells #[.int .i64 t.rev, .slice bj t.jobs.length dj, .slice bn t.nodes.length dn, .slice bl t.leases.length dl] 26)
      have C2 := below_trans C1 c2 C1.size
      have u := box_new4 y1 (.int .i64 t.rev) (.slice bj t.jobs.length dj) (.slice bn t.nodes.length dn) (.slice bl t.leases.length dl) 26
      have mj := jobsAt_next (ownJobs oj rfl) c2
      have mn := nodesAt_next (ownNodes on rfl) c2
      have ml := leasesAt_next (ownLeases ol rfl) c2
      have HEa := HE2.out bj bn bl dj dn dl _ C2 mj mn ml
      rw [he] at HEa
      have HEa := Lib.hid HEa
      have hxy := lists_eq a1
      have x0 := u.1 0 _ rfl
      have x1 := u.1 1 _ rfl
      have x2 := u.1 2 _ rfl
      have x3 := u.1 3 _ rfl
      obtain ⟨Y, hY⟩ : ∃ Y, y1.alloc (.cells #[.int .i64 t.rev, .slice bj t.jobs.length dj, .slice bn t.nodes.length dn, .slice bl t.leases.length dl] 26) = Y := ⟨_, rfl⟩
      rw [hY] at C2 u mj mn ml HEa x0 x1 x2 x3
      clear oj on ol c1 c2 HDa he
      go_wp2_with fail
      refine HEa.out.mono ?_
      rintro e y2 ⟨rfl, c3⟩
      clear x0 x1 x2 x3
      go_wp2
      go_ret
      exact ⟨rfl, below_trans C2 c3 C2.size⟩

theorem own : ownKnob Tryd.prog.godebug = none := by kernel_rfl
theorem laidOut : laidOutB Tryd.prog = true := by kernel_rfl
theorem laid_met (os : Os) : laidMet Tryd.prog Rows.wireBackRow.laid ((laidWorld os).forCall (fun _ _ => 0) ⟨#[], #[.agg #[.int .i64 0, .slice none 0 0, .slice none 0 0, .slice none 0 0], .string ⟨#[]⟩, .int .i64 0], []⟩).memory :=
  laidMet_of_run' 8 (by kernel_rfl) (by kernel_rfl)
theorem reads (os : Os) {H : Type} (enc : TypeId × Value → H) : ∃ places, DataW.whole enc Tryd.prog ((laidWorld os).forCall (fun _ _ => 0) ⟨#[], #[.agg #[.int .i64 0, .slice none 0 0, .slice none 0 0, .slice none 0 0], .string ⟨#[]⟩, .int .i64 0], []⟩).memory Tryd.f6.params.toList Rows.wireBackSpec.vars false #[Value.agg #[.int .i64 0, .slice none 0 0, .slice none 0 0, .slice none 0 0], Value.string ⟨#[]⟩, Value.int .i64 0].toList 8 = some ([.agg [.lit (.int .i64 0), .nil, .nil, .nil], .lit (.string []), .lit (.int .i64 0)], [], places) :=
  ⟨[], by kernel_rfl⟩
set_option maxRecDepth 100000 in
set_option maxHeartbeats 2000000 in
theorem lifted (os : Os) (started : os.Started) (H : Type) (enc : TypeId × Value → H) (F : Stop.Interp) :
    ReturnsInHanded {} Tryd.checked os 6 .any ((OpenSpec.ofChange Rows.wireBackSpec).preRow enc Tryd.prog Tryd.f6 Rows.wireBackRow.domain false Rows.wireBackRow.laid) (((OpenSpec.ofChange Rows.wireBackSpec).at F).post enc Tryd.prog Tryd.f6 false true false false) := by
  obtain ⟨places, hx⟩ := reads os enc
  refine returnsInHanded_of_row (C := Tryd.checked) (s := (OpenSpec.ofChange Rows.wireBackSpec)) own started (by kernel_rfl) Tryd.func6
    (witness_row_atRef (enc := enc) (C := Tryd.checked) false (laidWorld os) #[.agg #[.int .i64 0, .slice none 0 0, .slice none 0 0, .slice none 0 0], .string ⟨#[]⟩, .int .i64 0] rfl (by kernel_rfl) (by kernel_rfl) (by kernel_rfl)
      (OpenSpec.preRow_of_cond 8 hx (by kernel_rfl) (fun k hk => by cases hk) (by kernel_rfl) (laid_met os))) ?_
  intro W base args ds gs before hval0 hW _ _ hsz0 hL _ _
  have hval : ∀ (j : Nat) t v, Tryd.f6.params[j]? = some t → args[j]? = some v → Value.okWide Tryd.prog W .any base t v := hval0
  have hW' := hW
  obtain ⟨p, q, hA0, hV, rfl, hfz, hnd⟩ := hW
  have hA : DataW.TrodAll enc Tryd.prog W 0 (fun _ => true) true Tryd.f6.params.toList args.toList ds p := hA0
  have hsz : (DataW.weightsEach Tryd.prog (Tryd.f6.params.toList ++ Rows.wireBackSpec.plain.varTypes Tryd.prog) (ds ++ gs)).all (· ≤ reachBytes) = true := hsz0
  rw [Tryd.params6] at hA hval hsz
  obtain ⟨v0, vs0, d0, ds0, p0, q0, hargs, rfl, rfl, h0, r0⟩ := trodAll_cons hA
  obtain ⟨v1, vs1, d1, ds1, p1, q1, rfl, rfl, rfl, h1, r1⟩ := trodAll_cons r0
  obtain ⟨v2, vs2, d2, ds2, p2, q2, rfl, rfl, rfl, h2, r2⟩ := trodAll_cons r1
  obtain ⟨rfl, rfl, rfl⟩ := trodAll_nil r2
  obtain rfl : args = #[v0, v1, v2] := by cases args; simp_all
  obtain ⟨rfl, rfl⟩ := trodVars_none hV
  obtain ⟨M0, st0, rfl, m0, x0, w0⟩ := open_state (hval 0 26 v0 rfl rfl) h0
  obtain ⟨a1, rfl, rfl, rfl, w1⟩ := open_string Tryd.underlying9 (hval 1 9 v1 rfl rfl) h1
  obtain ⟨a2, rfl, rfl, rfl, w2⟩ := open_int Tryd.underlying3 (hval 2 3 v2 rfl rfl) h2
  have s0 := sized_state hsz rfl (j := 0) rfl x0
  have s1 : a1.data.toList.length ≤ reachBytes := sized_string hsz (j := 1) (t := 9) rfl rfl
  clear hA0 hval0
  refine (walk M0 st0 a1 a2 w0 w1 w2 s0 s1 W m0 (tabs_of hL)).mono fun e W' ⟨he, bel⟩ => ?_
  subst he
  exact ⟨_, rfl, _, _, _, [], _, [], hW', trodAll_mk1 (shut_bool Tryd.underlying4 _), (trodAll_cons_mk (Below.trod laidOut (by kernel_rfl) (of_decide_eq_true (by kernel_rfl)) h0 bel (fun x hx => by simpa using hW'.lt x (by simp [hx]))) (trodAll_cons_mk (shut_string Tryd.underlying9 w1) (trodAll_cons_mk (shut_int Tryd.underlying3 w2) trodAll_mk0))), rfl, bel.frame _, fun h => by cases h⟩
theorem said : Rows.WireBackSaid :=
  OpenClaim.holds_of_cond 6 Tryd.f6 rfl rfl rfl rfl rfl rfl rfl ⟨rfl, rfl, rfl, rfl, rfl⟩ rfl rfl rfl rfl rfl (by kernel_rfl) Tryd.func6 (by kernel_rfl)
    (of_decide_eq_true (by kernel_rfl)) (by unfold Func.isWrapper; first | (rw [if_pos (by decide +kernel)]; kernel_rfl) | (rw [if_neg (by decide +kernel)]; exact ⟨rfl, rfl⟩))
    (fun os started H enc _ F => by rw [OpenClaim.pre_eq_preRow]; exact lifted os started H enc F)
theorem plain (f : FuncId) (fn : Func) (hf : Tryd.pinned.checked.prog.funcNamed Rows.wireBackRow.func = some f) (hfn : Tryd.pinned.checked.prog.funcs[f]? = some fn) :
    true = Tryd.pinned.checked.prog.looks [] ∧ ∀ (j : Nat) t, fn.params[j]? = some t → Tryd.pinned.checked.prog.wantsStandIn t = false := by
  obtain rfl : f = 6 := Option.some.inj ((show Tryd.prog.funcNamed Rows.wireBackRow.func = some 6 by kernel_rfl).symm.trans hf) |>.symm
  obtain rfl : fn = Tryd.f6 := (Option.some.inj (Tryd.func6.symm.trans hfn)).symm
  refine ⟨by kernel_rfl, fun j t ht => ?_⟩
  rw [Tryd.params6] at ht
  have hm : t = 26 ∨ t = 9 ∨ t = 3 := by simpa using Array.mem_of_getElem? ht
  rcases hm with rfl | rfl | rfl
  · exact (show Tryd.prog.wantsStandIn 26 = false by kernel_rfl)
  · exact (show Tryd.prog.wantsStandIn 9 = false by kernel_rfl)
  · exact (show Tryd.prog.wantsStandIn 3 = false by kernel_rfl)
theorem proved : Rows.WireBackCardSaid :=
  Claim7.holds_tied_plain_at .later [] _ _ _ _ said (fun _ h => by cases h) (by kernel_rfl) (fun _ h => by cases h) wireBack_row_tie rfl ⟨rfl, rfl⟩ (by kernel_rfl) rfl plain (by kernel_rfl)
#print axioms proved
end Go.Proofs.YtdbopgmckndmeaaDoor.wireBack
