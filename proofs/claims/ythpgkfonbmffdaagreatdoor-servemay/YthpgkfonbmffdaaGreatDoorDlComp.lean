/- Package delta: compare. -/
import Derived.Test.YthpgkfonbmffdaaGreatDoorDlOrd
import Derived.Test.YthpgkfonbmffdaaGreatDoorPkDl2
import Derived.Test.YthpgkfonbmffdaaGreatDoorPkWi5
import Derived.Deep.CutRange
import Derived.Maps.AppendAt
namespace Go.Proofs.YthpgkfonbmffdaaGreatDoor
open Go.RowKit

theorem own_nlow {w : World} {B e sz n b : Nat} {v : Value} {xs : List Value} (h : w.ownsRow B e sz v n xs) (hb : b < B) : some b ≠ v.ownBlock := fun he => by have := (h.lt b he.symm).1; omega
theorem own_nnew {w : World} {B e sz n b : Nat} {v : Value} {xs : List Value} (h : w.ownsRow B e sz v n xs) (hb : w.heap.size ≤ b) : some b ≠ v.ownBlock := fun he => by have := (h.lt b he.symm).2; omega
theorem objAt_grown {b : Nat} {vs : Array Value} {t : TypeId} {w w' : World} {row : Option Nat} (h : ObjAt b vs t w) (hg : w.grownBy w' row) (hne : some b ≠ row) : ObjAt b vs t w' := by
  have hl := objAt_lt h
  unfold ObjAt at h ⊢
  rw [hg.block b hl hne]
  exact h
section
variable {α : Type} {key : α → ByteArray} {V : α → Value}
/-- What is left of a when the first i rows of b are done with. -/
def leftL (key : α → ByteArray) (a b : List α) (i : Nat) : List α := lessN key a (b.map key) i
theorem left_zero (a b : List α) : leftL key a b 0 = a := lessN_zero a _
theorem left_asc {a : List α} (h : Asc key a) (b : List α) (i : Nat) : Asc key (leftL key a b i) := lessN_asc h _ i
theorem left_step {a b : List α} {i : Nat} (hi : i < b.length) : dropL key (key b[i]) (leftL key a b i) = leftL key a b (i + 1) := by
  have := lessN_step (key := key) (l := a) (b.map key) i (by simpa using hi)
  rw [List.getElem_map] at this
  exact this
theorem left_end (a b : List α) : (leftL key a b b.length).map key = goneL key a b := by
  have h := lessN_end (key := key) a (b.map key)
  rw [List.length_map] at h
  unfold leftL
  rw [h]
  unfold lessL goneL
  congr 2
  funext x
  simp only [List.mem_map, not_exists, not_and]
theorem left_look {a b : List α} (ha : Asc key a) (hb : Asc key b) {i : Nat} (hi : i < b.length) :
    (∃ y ∈ a, key y = key b[i] ∧ tabF key V (leftL key a b i) (key b[i]) = some (V y)) ∨ ((∀ y ∈ a, key y ≠ key b[i]) ∧ tabF key V (leftL key a b i) (key b[i]) = none) := by
  by_cases h : ∃ y ∈ a, key y = key b[i]
  · obtain ⟨y, hy, e⟩ := h
    left
    refine ⟨y, hy, e, ?_⟩
    rw [← e]
    refine tabF_some (left_asc ha b i) ((lessN_mem a _ i y).2 ⟨hy, ?_⟩)
    rw [e, ← List.map_take]
    intro hm
    obtain ⟨z, hz, ez⟩ := List.mem_map.1 hm
    obtain ⟨j, hj, rfl⟩ := List.mem_take_iff_getElem.1 hz
    have hlt := List.pairwise_iff_getElem.1 hb j i (by omega) hi (by omega)
    exact lt_ne hlt ez
  · right
    have h' : ∀ y ∈ a, key y ≠ key b[i] := fun y hy e => h ⟨y, hy, e⟩
    refine ⟨h', tabF_none (left_asc ha b i) _ (fun x hx => h' x ((lessN_mem a _ i x).1 hx).1)⟩
open Classical in
theorem new_take (a b : List α) {i : Nat} (hi : i < b.length) : newL a (b.take (i + 1)) = newL a (b.take i) ++ (if b[i] ∈ a then [] else [b[i]]) := by
  unfold newL
  rw [List.take_succ_eq_append_getElem hi, List.filter_append]
  by_cases h : b[i] ∈ a <;> simp [h]
theorem new_in {a b : List α} {i : Nat} (hi : i < b.length) (h : b[i] ∈ a) : newL a (b.take (i + 1)) = newL a (b.take i) := by rw [new_take a b hi, if_pos h, List.append_nil]
theorem new_out {a b : List α} {i : Nat} (hi : i < b.length) (h : b[i] ∉ a) : newL a (b.take (i + 1)) = newL a (b.take i) ++ [b[i]] := by rw [new_take a b hi, if_neg h]
theorem new_count (a b : List α) (i : Nat) : (newL a (b.take i)).length ≤ b.length := Nat.le_trans (List.length_filter_le _ _) (by rw [List.length_take]; omega)
end
theorem info_str : (Tryz.prog.info? 9).map (fun i => (i.zero, i.size, i.bytes)) = some (some (.string ⟨#[]⟩), 1, 16) := by kernel_rfl
theorem jobV_inj {x y : JobD} (h : (some (jobV x)).getD (jobV zeroJ) = jobV y) : x = y := by
  cases x; cases y
  simp [jobV] at h
  simp only [JobD.mk.injEq]
  exact h
theorem nodeV_inj {x y : NodeD} (h : (some (nodeV x)).getD (nodeV zeroN) = nodeV y) : x = y := by
  cases x; cases y
  simp [nodeV] at h
  simp only [NodeD.mk.injEq]
  exact h
theorem leaseV_inj {x y : LeaseD} (h : (some (leaseV x)).getD (leaseV zeroL) = leaseV y) : x = y := by
  cases x; cases y
  simp [leaseV] at h
  simp only [LeaseD.mk.injEq]
  exact h

set_option maxRecDepth 100000 in
set_option maxHeartbeats 8000000 in
theorem compareJob_is (us rs : List JobD) (aa ab : Option Addr) (ca cb : Nat) (ha : Asc (·.name) us) (hb : Asc (·.name) rs) (hla : us.length ≤ 40) (hlb : rs.length ≤ 40) (hwa : ∀ x ∈ us, x.name.size ≤ maxLen) (hwb : ∀ x ∈ rs, x.name.size ≤ maxLen) (w : World) (hxa : JobsAt w aa us) (hxb : JobsAt w ab rs) :
    Calls Tryz.prog 149 #[.slice aa us.length ca, .slice ab rs.length cb, .func (.func 51) #[] #[]] w fun e w' => ∃ ad cap gd gc, e = .returned (.tuple #[.slice ad (newL us rs).length cap, .slice gd (goneL (·.name) us rs).length gc]) ∧
      w'.ownsRow w.heap.size 38 5 (.slice ad (newL us rs).length cap) (newL us rs).length (cJobs (newL us rs)) ∧ w'.ownsRow w.heap.size 9 1 (.slice gd (goneL (·.name) us rs).length gc) (goneL (·.name) us rs).length (cNms (goneL (·.name) us rs)) ∧ Below w.heap.size w w' := by
  obtain ⟨i0, qi, qz0, qz1, qz2⟩ := info_parts' Tryz.info_job
  obtain ⟨i1, ri, rz0, rz1, rz2⟩ := info_parts' info_str
  have Hi := Lib.hid qi
  have Hz0 := Lib.hid qz0
  have Hz1 := Lib.hid qz1
  have Hz2 := Lib.hid qz2
  have Gi := Lib.hid ri
  have Gz0 := Lib.hid rz0
  have Gz1 := Lib.hid rz1
  have Gz2 := Lib.hid rz2
  have HBK := Lib.hid (byKeyJob_is us aa ca hla hwa w hxa)
  have HX := Lib.hid hxb
  have HA := Lib.hid ha
  have HB := Lib.hid hb
  have HWB := Lib.hid hwb
  clear qi qz0 qz1 qz2 ri rz0 rz1 rz2 hxa hxb ha hb hwa hwb
  go_enter Tryz.func149, Tryz.ntmps149
  go_wp2_with fail
  refine HBK.out.mono ?_
  rintro e w0 ⟨rfl, M0, b0⟩
  have MM := Lib.hid M0
  have BB := Lib.hid b0
  clear M0 b0 HBK
  go_wp2
  go_loopw [9, 22] (fun pv iv wr => ∃ (i : Nat), iv = .int .i64 (i : Int) ∧ i ≤ rs.length ∧ wr.ownsRow (w.heap.size + 1) 38 5 pv (newL us (rs.take i)).length (cJobs (newL us (rs.take i))) ∧ MapAt wr w.heap.size us.length (tabF (·.name) jobV (leftL (·.name) us rs i)) ∧ Below w.heap.size w wr) (fun _ iv _ => rs.length - (intOf iv).toNat)
  case atStart => exact ⟨0, rfl, Nat.zero_le _, by exact World.ownsRow_nil _ _ _ _, mapAt_ext MM.out (fun s => by rw [left_zero]), BB.out⟩
  case round =>
    clear MM BB
    obtain ⟨i, rfl, hi, hown, hM, hbr⟩ := hrel
    obtain ⟨pad, pcap, rfl⟩ := ownRow_slice hown
    have hbs := hbr.size
    by_cases h : (i : Int) < (rs.length : Int)
    · have hil : i < rs.length := by omega
      obtain ⟨a, rfl, hal, k0, k1, k2, k3, k4⟩ := jobsAt_next HX.out hbr i hil
      obtain ⟨x, hxi⟩ : ∃ x, rs[i] = x := ⟨_, rfl⟩
      rw [hxi] at k0 k1 k2 k3 k4
      have hwx : x.name.size ≤ maxLen := HWB.out x (by rw [← hxi]; exact List.getElem_mem _)
      have hcnt := new_count us rs i
      have Hxi := Lib.hid hxi
      have bA := below_one wr (.cells #[.string x.name, .int .i64 x.prio, .int .i64 x.need, .int .i64 x.tries, .string x.tag] 38)
      have oA := objAt_new wr #[.string x.name, .int .i64 x.prio, .int .i64 x.need, .int .i64 x.tries, .string x.tag] 38
      have HK := Lib.hid (jobKey_is x (wr.alloc (.cells #[.string x.name, .int .i64 x.prio, .int .i64 x.need, .int .i64 x.tries, .string x.tag] 38)))
      have MA := Lib.hid (mapAt_below hM bA)
      have RA := Lib.hid (own_next hown bA)
      have BA := Lib.hid (below_trans hbr bA hbr.size)
      have OA := Lib.hid oA
      have hnr := Lib.hid (own_nnew hown (Nat.le_refl _))
      have c0 := objAt_cell oA 0 rfl
      have c1 := objAt_cell oA 1 rfl
      have c2 := objAt_cell oA 2 rfl
      have c3 := objAt_cell oA 3 rfl
      have c4 := objAt_cell oA 4 rfl
      have cl := objAt_lt oA
      have hlook := left_look (V := jobV) HA.out HB.out hil
      obtain ⟨y, hy⟩ := tabF_pick (·.name) jobV (leftL (·.name) us rs i) x.name zeroJ
      obtain ⟨d, hd⟩ : ∃ d, (tabF (·.name) jobV (leftL (·.name) us rs i) x.name).isSome = d := ⟨_, rfl⟩
      have hfact : (d = true → y ∈ us ∧ y.name = x.name) ∧ (d = false → x ∉ us) := by
        rw [hxi] at hlook
        rcases hlook with ⟨z, hz1, hz2, hz3⟩ | ⟨hz1, hz3⟩
        · rw [hz3] at hd hy
          have ezy : z = y := jobV_inj hy
          subst ezy
          exact ⟨fun _ => ⟨hz1, hz2⟩, fun e => (by rw [e] at hd; cases hd)⟩
        · rw [hz3] at hd
          exact ⟨fun e => (by rw [e] at hd; cases hd), fun _ hx => hz1 x hx rfl⟩
      have HF := Lib.hid hfact
      have Y1 := Lib.hid hd
      have Z1 : Hid ((tabF (·.name) jobV (leftL (·.name) us rs i) x.name).getD (jobV zeroJ) = .agg #[.string y.name, .int .i64 y.prio, .int .i64 y.need, .int .i64 y.tries, .string y.tag]) := hy
      clear hxi bA oA hM hown hal hlook hfact hd hy
      go_wp2_with fail
      refine HK.out.mono ?_
      rintro e w1 ⟨rfl, b1⟩
      have M1 := mapAt_below MA.out b1
      have R1 := own_next RA.out b1
      have O1 := objAt_next OA.out b1
      have B1 := below_trans BA.out b1 BA.out.size
      have hs1 : wr.heap.size < w1.heap.size := objAt_lt O1
      clear HK MA RA OA BA b1 k0 k1 k2 k3 k4 c0 c1 c2 c3 c4 cl
      have b2 := below_one w1 (.cells #[.string y.name, .int .i64 y.prio, .int .i64 y.need, .int .i64 y.tries, .string y.tag] 38)
      have P2 := objAt_new w1 #[.string y.name, .int .i64 y.prio, .int .i64 y.need, .int .i64 y.tries, .string y.tag] 38
      have O2 := objAt_next O1 b2
      have d0 := objAt_cell O2 0 rfl
      have d1 := objAt_cell O2 1 rfl
      have d2 := objAt_cell O2 2 rfl
      have d3 := objAt_cell O2 3 rfl
      have d4 := objAt_cell O2 4 rfl
      have p0 := objAt_cell P2 0 rfl
      have p1 := objAt_cell P2 1 rfl
      have p2 := objAt_cell P2 2 rfl
      have p3 := objAt_cell P2 3 rfl
      have p4 := objAt_cell P2 4 rfl
      have dl := objAt_lt O2
      have pl := objAt_lt P2
      have O3 := O2
      have M3 := mapAt_below M1 b2
      have R3 := own_next R1 b2
      have B3 := below_trans B1 b2 B1.size
      have S3 := Lib.hid (And.intro O3 (And.intro M3 (And.intro R3 B3)))
      obtain ⟨c, hc⟩ : ∃ c : Bool, (c = true ↔ (d = false ∨ ¬ y = x)) := by
        classical
        exact ⟨decide (d = false ∨ ¬ y = x), by simp⟩
      have Hc := Lib.hid hc
      clear b2 P2 O2 O1 R1 B1 O3 M3 R3 B3 hc
      go_upto_region 7 with (at_lookup; refine wpList_look_ok _ rfl _ _ 95 rfl 38 Tryz.underlying95 (zeroJob _) _ _ _ rfl M1 x.name rfl hwx _ _ Z1.out Y1.out ?_)
      clear M1
      go_cut [22, 40] from 22 to 49 (fun iv cv wc => iv = .int .i64 (i : Int) ∧ cv = .bool c ∧ wc = w1.alloc (.cells #[.string y.name, .int .i64 y.prio, .int .i64 y.need, .int .i64 y.tries, .string y.tag] 38))
      case first =>
        clear S3 HF Y1 Z1 Hxi hnr
        cases d with
        | false =>
          have e : c = true := Hc.out.2 (.inl rfl)
          subst e
          go_wp2
          go_meet
          case rel => exact ⟨rfl, rfl, rfl⟩
        | true =>
          by_cases hxy : y = x
          · subst hxy
            have e : c = false := by
              cases c with
              | false => rfl
              | true =>
                rcases Hc.out.1 rfl with h | h
                · cases h
                · exact absurd rfl h
            subst e
            have g0 := lists_eq y.name
            have g4 := lists_eq y.tag
            go_wp2
            go_meet
            case rel => exact ⟨rfl, rfl, rfl⟩
          · have e : c = true := Hc.out.2 (.inr hxy)
            subst e
            have hf := firstJob hxy
            clear hxy Hc
            cases x with | mk x_0 x_1 x_2 x_3 x_4 =>
            cases y with | mk y_0 y_1 y_2 y_3 y_4 =>
            simp only at hf d0 d1 d2 d3 d4 p0 p1 p2 p3 p4
            rcases hf with hf | ⟨rfl, hf⟩ | ⟨rfl, rfl, hf⟩ | ⟨rfl, rfl, rfl, hf⟩ | ⟨rfl, rfl, rfl, rfl, hf⟩
            all_goals
              have g0 := lists_eq y_0
              have g4 := lists_eq y_4
              go_wp2
              go_meet
              case rel => exact ⟨rfl, rfl, rfl⟩
      case rest =>
        obtain ⟨rfl, rfl, rfl⟩ := hcut
        obtain ⟨O3, M3, R3, B3⟩ := S3.out
        clear S3 p0 p1 p2 p3 p4 pl Y1 Z1
        cases c with
        | false =>
          have hin : x ∈ us := by
            cases d with
            | false => have := Hc.out.2 (.inl rfl); cases this
            | true =>
              have e : y = x := Classical.byContradiction fun hne => by have := Hc.out.2 (.inr hne); cases this
              rw [← e]
              exact (HF.out.1 rfl).1
          have HE := Lib.hid (new_in hil (show rs[i] ∈ us by rw [Hxi.out]; exact hin))
          clear hin HF Hc d0 d1 d2 d3 d4 dl
          have z_0 := objAt_cell O3 0 rfl
          have z_1 := objAt_cell O3 1 rfl
          have z_2 := objAt_cell O3 2 rfl
          have z_3 := objAt_cell O3 3 rfl
          have z_4 := objAt_cell O3 4 rfl
          have zl := objAt_lt O3
          have HK2 := Lib.hid (jobKey_is x (w1.alloc (.cells #[.string y.name, .int .i64 y.prio, .int .i64 y.need, .int .i64 y.tries, .string y.tag] 38)))
          have MM3 := Lib.hid M3
          have RR3 := Lib.hid R3
          have BB3 := Lib.hid B3
          clear O3 M3 R3 B3
          go_wp2_with fail
          refine HK2.out.mono ?_
          rintro e w4 ⟨rfl, b4⟩
          have M4 := mapAt_below MM3.out b4
          have R4 := own_next RR3.out b4
          have B4 := below_trans BB3.out b4 BB3.out.size
          clear HK2 b4 MM3 RR3 BB3 z_0 z_1 z_2 z_3 z_4 zl
          go_wp2_with (at_delete; refine wpList_del _ rfl _ _ 95 rfl 38 Tryz.underlying95 _ _ _ rfl M4 x.name rfl hwx ?_)
          intro w5 M5 hg5
          have R5 := R4.kept hg5 (.inr (own_nlow R4 (Nat.lt_succ_self _)).symm)
          have B5 := grownB_below B4 hg5 B4.size (Nat.le_refl _)
          have M6 : MapAt w5 w.heap.size us.length (tabF (·.name) jobV (leftL (·.name) us rs (i + 1))) := mapAt_ext M5 (fun s => by rw [tabF_drop (left_asc HA.out rs i)]; have hst := left_step (key := (·.name)) (a := us) hil; rw [Hxi.out] at hst; rw [hst])
          clear M5 hg5 M4 R4 B4
          go_wp2
          go_roundw
          case rel => exact ⟨i + 1, by simp, by omega, by rw [HE.out]; exact R5, M6, B5⟩
          case measure => simp [intOf]; omega
        | true =>
          have hout : x ∉ us := by
            cases d with
            | false => exact HF.out.2 rfl
            | true =>
              rcases Hc.out.1 rfl with e | e
              · cases e
              · exact fun hx => e (asc_one HA.out (HF.out.1 rfl).1 hx (HF.out.1 rfl).2)
          have HE := new_out hil (show rs[i] ∉ us by rw [Hxi.out]; exact hout)
          rw [Hxi.out] at HE
          have HE := Lib.hid HE
          obtain ⟨W3, hW3⟩ : ∃ W3, w1.alloc (.cells #[.string y.name, .int .i64 y.prio, .int .i64 y.need, .int .i64 y.tries, .string y.tag] 38) = W3 := ⟨_, rfl⟩
          rw [hW3] at O3 M3 R3 B3 d0 d1 d2 d3 d4 dl ⊢
          have hsW := B3.size
          have OO := Lib.hid O3
          have MM := Lib.hid M3
          have RR := Lib.hid R3
          have BB := Lib.hid B3
          clear hout HF Hc hW3 O3 M3 R3 B3
          go_wp2_with (at_builtin; refine wpList_append_own _ rfl _ _ 22 rfl (w.heap.size + 1) 38 i0 _ 5 56 Tryz.underlying22 Hi.out Hz0.out Hz1.out Hz2.out rfl (by decide) _ _ _ rfl (RR.out.alloc _) ⟨W3.heap.size, 0, none⟩ 1 1 (cJob x) rfl rfl ?c1 ?c2 ?c3 ?c4 ?c5 ?_)
          case c1 => exact job_new W3 x _
          case c2 => exact job_ones x
          case c3 => unfold maxLen; omega
          case c4 => omega
          case c5 => simp; omega
          intro v3 w3 own3 hg3 _
          have M3 := mapAt_kept (mapAt_alloc MM.out _) hg3 (own_nlow RR.out (Nat.lt_succ_self _))
          have O3 := objAt_grown (objAt_next OO.out (below_one _ _)) hg3 hnr.out
          have B3 := (BB.out.alloc BB.out.size _).grown hg3 (by simp; omega) (fun k hk => by have := (RR.out.lt k hk).1; omega)
          rw [← cJobs_one, ← cJobs_append] at own3
          obtain ⟨pd3, pc3, rfl⟩ := ownRow_slice own3
          have R3 := own3
          clear own3 hg3 OO MM RR BB d0 d1 d2 d3 d4 dl hsW
          have z_0 := objAt_cell O3 0 rfl
          have z_1 := objAt_cell O3 1 rfl
          have z_2 := objAt_cell O3 2 rfl
          have z_3 := objAt_cell O3 3 rfl
          have z_4 := objAt_cell O3 4 rfl
          have zl := objAt_lt O3
          have HK2 := Lib.hid (jobKey_is x w3)
          have MM3 := Lib.hid M3
          have RR3 := Lib.hid R3
          have BB3 := Lib.hid B3
          clear O3 M3 R3 B3
          go_wp2_with fail
          refine HK2.out.mono ?_
          rintro e w4 ⟨rfl, b4⟩
          have M4 := mapAt_below MM3.out b4
          have R4 := own_next RR3.out b4
          have B4 := below_trans BB3.out b4 BB3.out.size
          clear HK2 b4 MM3 RR3 BB3 z_0 z_1 z_2 z_3 z_4 zl
          go_wp2_with (at_delete; refine wpList_del _ rfl _ _ 95 rfl 38 Tryz.underlying95 _ _ _ rfl M4 x.name rfl hwx ?_)
          intro w5 M5 hg5
          have R5 := R4.kept hg5 (.inr (own_nlow R4 (Nat.lt_succ_self _)).symm)
          have B5 := grownB_below B4 hg5 B4.size (Nat.le_refl _)
          have M6 : MapAt w5 w.heap.size us.length (tabF (·.name) jobV (leftL (·.name) us rs (i + 1))) := mapAt_ext M5 (fun s => by rw [tabF_drop (left_asc HA.out rs i)]; have hst := left_step (key := (·.name)) (a := us) hil; rw [Hxi.out] at hst; rw [hst])
          clear M5 hg5 M4 R4 B4
          go_wp2
          go_roundw
          case rel => exact ⟨i + 1, by simp, by omega, by rw [HE.out]; rw [List.length_append]; exact R5, M6, B5⟩
          case measure => simp [intOf]; omega
    · obtain rfl : i = rs.length := by omega
      rw [List.take_length] at hown
      have hlen := lessN_size (key := (·.name)) (l := us) (rs.map (·.name)) rs.length
      obtain ⟨L, hL⟩ : ∃ L, leftL (·.name) us rs rs.length = L := ⟨_, rfl⟩
      have HLA := left_asc HA.out rs rs.length
      have HGL := left_end (key := (·.name)) us rs
      change (leftL (·.name) us rs rs.length).length ≤ us.length at hlen
      rw [hL] at hM HLA HGL hlen
      have HI := Lib.hid (inoJob_is w.heap.size us.length L HLA (by omega) (by omega) wr hM)
      have HR := Lib.hid hown
      have HBR := Lib.hid hbr
      have HG := Lib.hid HGL
      clear hM HLA HGL hL hown
      go_wp2_with fail
      refine HI.out.mono ?_
      rintro e w3 ⟨ld, lc, rfl, own3, b3⟩
      have hL3 := Lib.hid (ownJobs own3 rfl)
      have B3 := Lib.hid (below_trans HBR.out b3 HBR.out.size)
      have R3 := Lib.hid (own_next HR.out b3)
      have hs3 := b3.size
      clear HI HR HBR own3 b3
      go_wp2
      go_loopw [14, 54] (fun pv iv wr => ∃ (j : Nat), iv = .int .i64 (j : Int) ∧ j ≤ L.length ∧ wr.ownsRow w3.heap.size 9 1 pv j (cNms ((L.take j).map (·.name))) ∧ Below w3.heap.size w3 wr) (fun _ iv _ => L.length - (intOf iv).toNat)
      case atStart => exact ⟨0, rfl, Nat.zero_le _, World.ownsRow_nil _ _ _ _, Below.refl _ _⟩
      case round =>
        obtain ⟨j, rfl, hj, hown, hb3⟩ := hrel
        obtain ⟨gad, gcp, rfl⟩ := ownRow_slice hown
        have hbs3 := hb3.size
        by_cases h2 : (j : Int) < (L.length : Int)
        · have hjl : j < L.length := by omega
          obtain ⟨a, rfl, hal, k0, k1, k2, k3, k4⟩ := jobsAt_next hL3.out hb3 j hjl
          obtain ⟨x, hxi⟩ : ∃ x, L[j] = x := ⟨_, rfl⟩
          rw [hxi] at k0 k1 k2 k3 k4
          have Hxi := Lib.hid hxi
          have HT := List.take_succ_eq_append_getElem hjl
          rw [hxi] at HT
          have HT := Lib.hid HT
          rename World => wq
          have bA := below_one wq (.cells #[.string x.name, .int .i64 x.prio, .int .i64 x.need, .int .i64 x.tries, .string x.tag] 38)
          have oA := objAt_new wq #[.string x.name, .int .i64 x.prio, .int .i64 x.need, .int .i64 x.tries, .string x.tag] 38
          have HK := Lib.hid (jobKey_is x (wq.alloc (.cells #[.string x.name, .int .i64 x.prio, .int .i64 x.need, .int .i64 x.tries, .string x.tag] 38)))
          have RA := Lib.hid (own_next hown bA)
          have BA := Lib.hid (below_trans hb3 bA hb3.size)
          have c0 := objAt_cell oA 0 rfl
          have c1 := objAt_cell oA 1 rfl
          have c2 := objAt_cell oA 2 rfl
          have c3 := objAt_cell oA 3 rfl
          have c4 := objAt_cell oA 4 rfl
          have cl := objAt_lt oA
          clear hxi bA oA hown hal
          go_wp2_with fail
          refine HK.out.mono ?_
          rintro e w4 ⟨rfl, b4⟩
          have R4 := own_next RA.out b4
          have B4 := below_trans BA.out b4 BA.out.size
          have s4 := B4.size
          clear HK RA BA b4 k0 k1 k2 k3 k4 c0 c1 c2 c3 c4 cl
          go_wp2_with (at_builtin; refine wpList_append_own _ rfl _ _ 47 rfl w3.heap.size 9 i1 _ 1 16 Tryz.underlying47 Gi.out Gz0.out Gz1.out Gz2.out rfl (by decide) _ _ _ rfl (R4.alloc _) ⟨w4.heap.size, 0, none⟩ 1 1 [.string x.name] rfl rfl (cell_one_new _ _ _) (by simp [Value.oneCell']) (by unfold maxLen; omega) (by omega) (by simp; omega) ?_)
          intro v5 w5 own5 hg5 _
          have B5 := (B4.alloc B4.size _).grown hg5 (by simp; omega) (fun k hk => (R4.lt k hk).1)
          have own6 : w5.ownsRow w3.heap.size 9 1 v5 (j + 1) (cNms ((L.take (j + 1)).map (·.name))) := by
            rw [HT.out, List.map_append, cNms_append]
            first | exact own5 | (rw [← List.map_take] at own5; exact own5)
          clear own5 hg5 R4 B4 s4
          go_wp2
          go_roundw
          case rel => exact ⟨j + 1, by simp, by omega, own6, B5⟩
          case measure => simp [intOf]; omega
        · obtain rfl : j = L.length := by omega
          rw [List.take_length, HG.out] at hown
          have e1 : L.length = (goneL (·.name) us rs).length := by rw [← HG.out, List.length_map]
          have HE1 := Lib.hid e1
          have Q := Lib.hid (ownsRow_low (B' := w.heap.size) hown (by have := B3.out.size; omega))
          have R5 := Lib.hid (ownsRow_low (B' := w.heap.size) (own_next R3.out hb3) (by omega))
          have B5 := Lib.hid (below_trans B3.out hb3 B3.out.size)
          clear hown e1 hb3
          go_wp2
          go_ret2
          exact ⟨pad, pcap, gad, gcp, by rw [← HE1.out]; rfl, R5.out, by rw [← HE1.out]; exact Q.out, B5.out⟩

set_option maxRecDepth 100000 in
set_option maxHeartbeats 8000000 in
theorem compareNode_is (us rs : List NodeD) (aa ab : Option Addr) (ca cb : Nat) (ha : Asc (·.name) us) (hb : Asc (·.name) rs) (hla : us.length ≤ 40) (hlb : rs.length ≤ 40) (hwa : ∀ x ∈ us, x.name.size ≤ maxLen) (hwb : ∀ x ∈ rs, x.name.size ≤ maxLen) (w : World) (hxa : NodesAt w aa us) (hxb : NodesAt w ab rs) :
    Calls Tryz.prog 150 #[.slice aa us.length ca, .slice ab rs.length cb, .func (.func 54) #[] #[]] w fun e w' => ∃ ad cap gd gc, e = .returned (.tuple #[.slice ad (newL us rs).length cap, .slice gd (goneL (·.name) us rs).length gc]) ∧
      w'.ownsRow w.heap.size 40 3 (.slice ad (newL us rs).length cap) (newL us rs).length (cNodes (newL us rs)) ∧ w'.ownsRow w.heap.size 9 1 (.slice gd (goneL (·.name) us rs).length gc) (goneL (·.name) us rs).length (cNms (goneL (·.name) us rs)) ∧ Below w.heap.size w w' := by
  obtain ⟨i0, qi, qz0, qz1, qz2⟩ := info_parts' Tryz.info_node
  obtain ⟨i1, ri, rz0, rz1, rz2⟩ := info_parts' info_str
  have Hi := Lib.hid qi
  have Hz0 := Lib.hid qz0
  have Hz1 := Lib.hid qz1
  have Hz2 := Lib.hid qz2
  have Gi := Lib.hid ri
  have Gz0 := Lib.hid rz0
  have Gz1 := Lib.hid rz1
  have Gz2 := Lib.hid rz2
  have HBK := Lib.hid (byKeyNode_is us aa ca hla hwa w hxa)
  have HX := Lib.hid hxb
  have HA := Lib.hid ha
  have HB := Lib.hid hb
  have HWB := Lib.hid hwb
  clear qi qz0 qz1 qz2 ri rz0 rz1 rz2 hxa hxb ha hb hwa hwb
  go_enter Tryz.func150, Tryz.ntmps150
  go_wp2_with fail
  refine HBK.out.mono ?_
  rintro e w0 ⟨rfl, M0, b0⟩
  have MM := Lib.hid M0
  have BB := Lib.hid b0
  clear M0 b0 HBK
  go_wp2
  go_loopw [9, 22] (fun pv iv wr => ∃ (i : Nat), iv = .int .i64 (i : Int) ∧ i ≤ rs.length ∧ wr.ownsRow (w.heap.size + 1) 40 3 pv (newL us (rs.take i)).length (cNodes (newL us (rs.take i))) ∧ MapAt wr w.heap.size us.length (tabF (·.name) nodeV (leftL (·.name) us rs i)) ∧ Below w.heap.size w wr) (fun _ iv _ => rs.length - (intOf iv).toNat)
  case atStart => exact ⟨0, rfl, Nat.zero_le _, by exact World.ownsRow_nil _ _ _ _, mapAt_ext MM.out (fun s => by rw [left_zero]), BB.out⟩
  case round =>
    clear MM BB
    obtain ⟨i, rfl, hi, hown, hM, hbr⟩ := hrel
    obtain ⟨pad, pcap, rfl⟩ := ownRow_slice hown
    have hbs := hbr.size
    by_cases h : (i : Int) < (rs.length : Int)
    · have hil : i < rs.length := by omega
      obtain ⟨a, rfl, hal, k0, k1, k2⟩ := nodesAt_next HX.out hbr i hil
      obtain ⟨x, hxi⟩ : ∃ x, rs[i] = x := ⟨_, rfl⟩
      rw [hxi] at k0 k1 k2
      have hwx : x.name.size ≤ maxLen := HWB.out x (by rw [← hxi]; exact List.getElem_mem _)
      have hcnt := new_count us rs i
      have Hxi := Lib.hid hxi
      have bA := below_one wr (.cells #[.string x.name, .int .i64 x.room, .string x.zone] 40)
      have oA := objAt_new wr #[.string x.name, .int .i64 x.room, .string x.zone] 40
      have HK := Lib.hid (nodeKey_is x (wr.alloc (.cells #[.string x.name, .int .i64 x.room, .string x.zone] 40)))
      have MA := Lib.hid (mapAt_below hM bA)
      have RA := Lib.hid (own_next hown bA)
      have BA := Lib.hid (below_trans hbr bA hbr.size)
      have OA := Lib.hid oA
      have hnr := Lib.hid (own_nnew hown (Nat.le_refl _))
      have c0 := objAt_cell oA 0 rfl
      have c1 := objAt_cell oA 1 rfl
      have c2 := objAt_cell oA 2 rfl
      have cl := objAt_lt oA
      have hlook := left_look (V := nodeV) HA.out HB.out hil
      obtain ⟨y, hy⟩ := tabF_pick (·.name) nodeV (leftL (·.name) us rs i) x.name zeroN
      obtain ⟨d, hd⟩ : ∃ d, (tabF (·.name) nodeV (leftL (·.name) us rs i) x.name).isSome = d := ⟨_, rfl⟩
      have hfact : (d = true → y ∈ us ∧ y.name = x.name) ∧ (d = false → x ∉ us) := by
        rw [hxi] at hlook
        rcases hlook with ⟨z, hz1, hz2, hz3⟩ | ⟨hz1, hz3⟩
        · rw [hz3] at hd hy
          have ezy : z = y := nodeV_inj hy
          subst ezy
          exact ⟨fun _ => ⟨hz1, hz2⟩, fun e => (by rw [e] at hd; cases hd)⟩
        · rw [hz3] at hd
          exact ⟨fun e => (by rw [e] at hd; cases hd), fun _ hx => hz1 x hx rfl⟩
      have HF := Lib.hid hfact
      have Y1 := Lib.hid hd
      have Z1 : Hid ((tabF (·.name) nodeV (leftL (·.name) us rs i) x.name).getD (nodeV zeroN) = .agg #[.string y.name, .int .i64 y.room, .string y.zone]) := hy
      clear hxi bA oA hM hown hal hlook hfact hd hy
      go_wp2_with fail
      refine HK.out.mono ?_
      rintro e w1 ⟨rfl, b1⟩
      have M1 := mapAt_below MA.out b1
      have R1 := own_next RA.out b1
      have O1 := objAt_next OA.out b1
      have B1 := below_trans BA.out b1 BA.out.size
      have hs1 : wr.heap.size < w1.heap.size := objAt_lt O1
      clear HK MA RA OA BA b1 k0 k1 k2 c0 c1 c2 cl
      have b2 := below_one w1 (.cells #[.string y.name, .int .i64 y.room, .string y.zone] 40)
      have P2 := objAt_new w1 #[.string y.name, .int .i64 y.room, .string y.zone] 40
      have O2 := objAt_next O1 b2
      have d0 := objAt_cell O2 0 rfl
      have d1 := objAt_cell O2 1 rfl
      have d2 := objAt_cell O2 2 rfl
      have p0 := objAt_cell P2 0 rfl
      have p1 := objAt_cell P2 1 rfl
      have p2 := objAt_cell P2 2 rfl
      have dl := objAt_lt O2
      have pl := objAt_lt P2
      have O3 := O2
      have M3 := mapAt_below M1 b2
      have R3 := own_next R1 b2
      have B3 := below_trans B1 b2 B1.size
      have S3 := Lib.hid (And.intro O3 (And.intro M3 (And.intro R3 B3)))
      obtain ⟨c, hc⟩ : ∃ c : Bool, (c = true ↔ (d = false ∨ ¬ y = x)) := by
        classical
        exact ⟨decide (d = false ∨ ¬ y = x), by simp⟩
      have Hc := Lib.hid hc
      clear b2 P2 O2 O1 R1 B1 O3 M3 R3 B3 hc
      go_upto_region 7 with (at_lookup; refine wpList_look_ok _ rfl _ _ 96 rfl 40 Tryz.underlying96 (zeroNode _) _ _ _ rfl M1 x.name rfl hwx _ _ Z1.out Y1.out ?_)
      clear M1
      go_cut [22, 40] from 22 to 49 (fun iv cv wc => iv = .int .i64 (i : Int) ∧ cv = .bool c ∧ wc = w1.alloc (.cells #[.string y.name, .int .i64 y.room, .string y.zone] 40))
      case first =>
        clear S3 HF Y1 Z1 Hxi hnr
        cases d with
        | false =>
          have e : c = true := Hc.out.2 (.inl rfl)
          subst e
          go_wp2
          go_meet
          case rel => exact ⟨rfl, rfl, rfl⟩
        | true =>
          by_cases hxy : y = x
          · subst hxy
            have e : c = false := by
              cases c with
              | false => rfl
              | true =>
                rcases Hc.out.1 rfl with h | h
                · cases h
                · exact absurd rfl h
            subst e
            have g0 := lists_eq y.name
            have g2 := lists_eq y.zone
            go_wp2
            go_meet
            case rel => exact ⟨rfl, rfl, rfl⟩
          · have e : c = true := Hc.out.2 (.inr hxy)
            subst e
            have hf := firstNode hxy
            clear hxy Hc
            cases x with | mk x_0 x_1 x_2 =>
            cases y with | mk y_0 y_1 y_2 =>
            simp only at hf d0 d1 d2 p0 p1 p2
            rcases hf with hf | ⟨rfl, hf⟩ | ⟨rfl, rfl, hf⟩
            all_goals
              have g0 := lists_eq y_0
              have g2 := lists_eq y_2
              go_wp2
              go_meet
              case rel => exact ⟨rfl, rfl, rfl⟩
      case rest =>
        obtain ⟨rfl, rfl, rfl⟩ := hcut
        obtain ⟨O3, M3, R3, B3⟩ := S3.out
        clear S3 p0 p1 p2 pl Y1 Z1
        cases c with
        | false =>
          have hin : x ∈ us := by
            cases d with
            | false => have := Hc.out.2 (.inl rfl); cases this
            | true =>
              have e : y = x := Classical.byContradiction fun hne => by have := Hc.out.2 (.inr hne); cases this
              rw [← e]
              exact (HF.out.1 rfl).1
          have HE := Lib.hid (new_in hil (show rs[i] ∈ us by rw [Hxi.out]; exact hin))
          clear hin HF Hc d0 d1 d2 dl
          have z_0 := objAt_cell O3 0 rfl
          have z_1 := objAt_cell O3 1 rfl
          have z_2 := objAt_cell O3 2 rfl
          have zl := objAt_lt O3
          have HK2 := Lib.hid (nodeKey_is x (w1.alloc (.cells #[.string y.name, .int .i64 y.room, .string y.zone] 40)))
          have MM3 := Lib.hid M3
          have RR3 := Lib.hid R3
          have BB3 := Lib.hid B3
          clear O3 M3 R3 B3
          go_wp2_with fail
          refine HK2.out.mono ?_
          rintro e w4 ⟨rfl, b4⟩
          have M4 := mapAt_below MM3.out b4
          have R4 := own_next RR3.out b4
          have B4 := below_trans BB3.out b4 BB3.out.size
          clear HK2 b4 MM3 RR3 BB3 z_0 z_1 z_2 zl
          go_wp2_with (at_delete; refine wpList_del _ rfl _ _ 96 rfl 40 Tryz.underlying96 _ _ _ rfl M4 x.name rfl hwx ?_)
          intro w5 M5 hg5
          have R5 := R4.kept hg5 (.inr (own_nlow R4 (Nat.lt_succ_self _)).symm)
          have B5 := grownB_below B4 hg5 B4.size (Nat.le_refl _)
          have M6 : MapAt w5 w.heap.size us.length (tabF (·.name) nodeV (leftL (·.name) us rs (i + 1))) := mapAt_ext M5 (fun s => by rw [tabF_drop (left_asc HA.out rs i)]; have hst := left_step (key := (·.name)) (a := us) hil; rw [Hxi.out] at hst; rw [hst])
          clear M5 hg5 M4 R4 B4
          go_wp2
          go_roundw
          case rel => exact ⟨i + 1, by simp, by omega, by rw [HE.out]; exact R5, M6, B5⟩
          case measure => simp [intOf]; omega
        | true =>
          have hout : x ∉ us := by
            cases d with
            | false => exact HF.out.2 rfl
            | true =>
              rcases Hc.out.1 rfl with e | e
              · cases e
              · exact fun hx => e (asc_one HA.out (HF.out.1 rfl).1 hx (HF.out.1 rfl).2)
          have HE := new_out hil (show rs[i] ∉ us by rw [Hxi.out]; exact hout)
          rw [Hxi.out] at HE
          have HE := Lib.hid HE
          obtain ⟨W3, hW3⟩ : ∃ W3, w1.alloc (.cells #[.string y.name, .int .i64 y.room, .string y.zone] 40) = W3 := ⟨_, rfl⟩
          rw [hW3] at O3 M3 R3 B3 d0 d1 d2 dl ⊢
          have hsW := B3.size
          have OO := Lib.hid O3
          have MM := Lib.hid M3
          have RR := Lib.hid R3
          have BB := Lib.hid B3
          clear hout HF Hc hW3 O3 M3 R3 B3
          go_wp2_with (at_builtin; refine wpList_append_own _ rfl _ _ 23 rfl (w.heap.size + 1) 40 i0 _ 3 40 Tryz.underlying23 Hi.out Hz0.out Hz1.out Hz2.out rfl (by decide) _ _ _ rfl (RR.out.alloc _) ⟨W3.heap.size, 0, none⟩ 1 1 (cNode x) rfl rfl ?c1 ?c2 ?c3 ?c4 ?c5 ?_)
          case c1 => exact node_new W3 x _
          case c2 => exact node_ones x
          case c3 => unfold maxLen; omega
          case c4 => omega
          case c5 => simp; omega
          intro v3 w3 own3 hg3 _
          have M3 := mapAt_kept (mapAt_alloc MM.out _) hg3 (own_nlow RR.out (Nat.lt_succ_self _))
          have O3 := objAt_grown (objAt_next OO.out (below_one _ _)) hg3 hnr.out
          have B3 := (BB.out.alloc BB.out.size _).grown hg3 (by simp; omega) (fun k hk => by have := (RR.out.lt k hk).1; omega)
          rw [← cNodes_one, ← cNodes_append] at own3
          obtain ⟨pd3, pc3, rfl⟩ := ownRow_slice own3
          have R3 := own3
          clear own3 hg3 OO MM RR BB d0 d1 d2 dl hsW
          have z_0 := objAt_cell O3 0 rfl
          have z_1 := objAt_cell O3 1 rfl
          have z_2 := objAt_cell O3 2 rfl
          have zl := objAt_lt O3
          have HK2 := Lib.hid (nodeKey_is x w3)
          have MM3 := Lib.hid M3
          have RR3 := Lib.hid R3
          have BB3 := Lib.hid B3
          clear O3 M3 R3 B3
          go_wp2_with fail
          refine HK2.out.mono ?_
          rintro e w4 ⟨rfl, b4⟩
          have M4 := mapAt_below MM3.out b4
          have R4 := own_next RR3.out b4
          have B4 := below_trans BB3.out b4 BB3.out.size
          clear HK2 b4 MM3 RR3 BB3 z_0 z_1 z_2 zl
          go_wp2_with (at_delete; refine wpList_del _ rfl _ _ 96 rfl 40 Tryz.underlying96 _ _ _ rfl M4 x.name rfl hwx ?_)
          intro w5 M5 hg5
          have R5 := R4.kept hg5 (.inr (own_nlow R4 (Nat.lt_succ_self _)).symm)
          have B5 := grownB_below B4 hg5 B4.size (Nat.le_refl _)
          have M6 : MapAt w5 w.heap.size us.length (tabF (·.name) nodeV (leftL (·.name) us rs (i + 1))) := mapAt_ext M5 (fun s => by rw [tabF_drop (left_asc HA.out rs i)]; have hst := left_step (key := (·.name)) (a := us) hil; rw [Hxi.out] at hst; rw [hst])
          clear M5 hg5 M4 R4 B4
          go_wp2
          go_roundw
          case rel => exact ⟨i + 1, by simp, by omega, by rw [HE.out]; rw [List.length_append]; exact R5, M6, B5⟩
          case measure => simp [intOf]; omega
    · obtain rfl : i = rs.length := by omega
      rw [List.take_length] at hown
      have hlen := lessN_size (key := (·.name)) (l := us) (rs.map (·.name)) rs.length
      obtain ⟨L, hL⟩ : ∃ L, leftL (·.name) us rs rs.length = L := ⟨_, rfl⟩
      have HLA := left_asc HA.out rs rs.length
      have HGL := left_end (key := (·.name)) us rs
      change (leftL (·.name) us rs rs.length).length ≤ us.length at hlen
      rw [hL] at hM HLA HGL hlen
      have HI := Lib.hid (inoNode_is w.heap.size us.length L HLA (by omega) (by omega) wr hM)
      have HR := Lib.hid hown
      have HBR := Lib.hid hbr
      have HG := Lib.hid HGL
      clear hM HLA HGL hL hown
      go_wp2_with fail
      refine HI.out.mono ?_
      rintro e w3 ⟨ld, lc, rfl, own3, b3⟩
      have hL3 := Lib.hid (ownNodes own3 rfl)
      have B3 := Lib.hid (below_trans HBR.out b3 HBR.out.size)
      have R3 := Lib.hid (own_next HR.out b3)
      have hs3 := b3.size
      clear HI HR HBR own3 b3
      go_wp2
      go_loopw [14, 54] (fun pv iv wr => ∃ (j : Nat), iv = .int .i64 (j : Int) ∧ j ≤ L.length ∧ wr.ownsRow w3.heap.size 9 1 pv j (cNms ((L.take j).map (·.name))) ∧ Below w3.heap.size w3 wr) (fun _ iv _ => L.length - (intOf iv).toNat)
      case atStart => exact ⟨0, rfl, Nat.zero_le _, World.ownsRow_nil _ _ _ _, Below.refl _ _⟩
      case round =>
        obtain ⟨j, rfl, hj, hown, hb3⟩ := hrel
        obtain ⟨gad, gcp, rfl⟩ := ownRow_slice hown
        have hbs3 := hb3.size
        by_cases h2 : (j : Int) < (L.length : Int)
        · have hjl : j < L.length := by omega
          obtain ⟨a, rfl, hal, k0, k1, k2⟩ := nodesAt_next hL3.out hb3 j hjl
          obtain ⟨x, hxi⟩ : ∃ x, L[j] = x := ⟨_, rfl⟩
          rw [hxi] at k0 k1 k2
          have Hxi := Lib.hid hxi
          have HT := List.take_succ_eq_append_getElem hjl
          rw [hxi] at HT
          have HT := Lib.hid HT
          rename World => wq
          have bA := below_one wq (.cells #[.string x.name, .int .i64 x.room, .string x.zone] 40)
          have oA := objAt_new wq #[.string x.name, .int .i64 x.room, .string x.zone] 40
          have HK := Lib.hid (nodeKey_is x (wq.alloc (.cells #[.string x.name, .int .i64 x.room, .string x.zone] 40)))
          have RA := Lib.hid (own_next hown bA)
          have BA := Lib.hid (below_trans hb3 bA hb3.size)
          have c0 := objAt_cell oA 0 rfl
          have c1 := objAt_cell oA 1 rfl
          have c2 := objAt_cell oA 2 rfl
          have cl := objAt_lt oA
          clear hxi bA oA hown hal
          go_wp2_with fail
          refine HK.out.mono ?_
          rintro e w4 ⟨rfl, b4⟩
          have R4 := own_next RA.out b4
          have B4 := below_trans BA.out b4 BA.out.size
          have s4 := B4.size
          clear HK RA BA b4 k0 k1 k2 c0 c1 c2 cl
          go_wp2_with (at_builtin; refine wpList_append_own _ rfl _ _ 47 rfl w3.heap.size 9 i1 _ 1 16 Tryz.underlying47 Gi.out Gz0.out Gz1.out Gz2.out rfl (by decide) _ _ _ rfl (R4.alloc _) ⟨w4.heap.size, 0, none⟩ 1 1 [.string x.name] rfl rfl (cell_one_new _ _ _) (by simp [Value.oneCell']) (by unfold maxLen; omega) (by omega) (by simp; omega) ?_)
          intro v5 w5 own5 hg5 _
          have B5 := (B4.alloc B4.size _).grown hg5 (by simp; omega) (fun k hk => (R4.lt k hk).1)
          have own6 : w5.ownsRow w3.heap.size 9 1 v5 (j + 1) (cNms ((L.take (j + 1)).map (·.name))) := by
            rw [HT.out, List.map_append, cNms_append]
            first | exact own5 | (rw [← List.map_take] at own5; exact own5)
          clear own5 hg5 R4 B4 s4
          go_wp2
          go_roundw
          case rel => exact ⟨j + 1, by simp, by omega, own6, B5⟩
          case measure => simp [intOf]; omega
        · obtain rfl : j = L.length := by omega
          rw [List.take_length, HG.out] at hown
          have e1 : L.length = (goneL (·.name) us rs).length := by rw [← HG.out, List.length_map]
          have HE1 := Lib.hid e1
          have Q := Lib.hid (ownsRow_low (B' := w.heap.size) hown (by have := B3.out.size; omega))
          have R5 := Lib.hid (ownsRow_low (B' := w.heap.size) (own_next R3.out hb3) (by omega))
          have B5 := Lib.hid (below_trans B3.out hb3 B3.out.size)
          clear hown e1 hb3
          go_wp2
          go_ret2
          exact ⟨pad, pcap, gad, gcp, by rw [← HE1.out]; rfl, R5.out, by rw [← HE1.out]; exact Q.out, B5.out⟩

set_option maxRecDepth 100000 in
set_option maxHeartbeats 8000000 in
theorem compareLease_is (us rs : List LeaseD) (aa ab : Option Addr) (ca cb : Nat) (ha : Asc (·.job) us) (hb : Asc (·.job) rs) (hla : us.length ≤ 40) (hlb : rs.length ≤ 40) (hwa : ∀ x ∈ us, x.job.size ≤ maxLen) (hwb : ∀ x ∈ rs, x.job.size ≤ maxLen) (w : World) (hxa : LeasesAt w aa us) (hxb : LeasesAt w ab rs) :
    Calls Tryz.prog 151 #[.slice aa us.length ca, .slice ab rs.length cb, .func (.func 58) #[] #[]] w fun e w' => ∃ ad cap gd gc, e = .returned (.tuple #[.slice ad (newL us rs).length cap, .slice gd (goneL (·.job) us rs).length gc]) ∧
      w'.ownsRow w.heap.size 42 3 (.slice ad (newL us rs).length cap) (newL us rs).length (cLeases (newL us rs)) ∧ w'.ownsRow w.heap.size 9 1 (.slice gd (goneL (·.job) us rs).length gc) (goneL (·.job) us rs).length (cNms (goneL (·.job) us rs)) ∧ Below w.heap.size w w' := by
  obtain ⟨i0, qi, qz0, qz1, qz2⟩ := info_parts' Tryz.info_lease
  obtain ⟨i1, ri, rz0, rz1, rz2⟩ := info_parts' info_str
  have Hi := Lib.hid qi
  have Hz0 := Lib.hid qz0
  have Hz1 := Lib.hid qz1
  have Hz2 := Lib.hid qz2
  have Gi := Lib.hid ri
  have Gz0 := Lib.hid rz0
  have Gz1 := Lib.hid rz1
  have Gz2 := Lib.hid rz2
  have HBK := Lib.hid (byKeyLease_is us aa ca hla hwa w hxa)
  have HX := Lib.hid hxb
  have HA := Lib.hid ha
  have HB := Lib.hid hb
  have HWB := Lib.hid hwb
  clear qi qz0 qz1 qz2 ri rz0 rz1 rz2 hxa hxb ha hb hwa hwb
  go_enter Tryz.func151, Tryz.ntmps151
  go_wp2_with fail
  refine HBK.out.mono ?_
  rintro e w0 ⟨rfl, M0, b0⟩
  have MM := Lib.hid M0
  have BB := Lib.hid b0
  clear M0 b0 HBK
  go_wp2
  go_loopw [9, 22] (fun pv iv wr => ∃ (i : Nat), iv = .int .i64 (i : Int) ∧ i ≤ rs.length ∧ wr.ownsRow (w.heap.size + 1) 42 3 pv (newL us (rs.take i)).length (cLeases (newL us (rs.take i))) ∧ MapAt wr w.heap.size us.length (tabF (·.job) leaseV (leftL (·.job) us rs i)) ∧ Below w.heap.size w wr) (fun _ iv _ => rs.length - (intOf iv).toNat)
  case atStart => exact ⟨0, rfl, Nat.zero_le _, by exact World.ownsRow_nil _ _ _ _, mapAt_ext MM.out (fun s => by rw [left_zero]), BB.out⟩
  case round =>
    clear MM BB
    obtain ⟨i, rfl, hi, hown, hM, hbr⟩ := hrel
    obtain ⟨pad, pcap, rfl⟩ := ownRow_slice hown
    have hbs := hbr.size
    by_cases h : (i : Int) < (rs.length : Int)
    · have hil : i < rs.length := by omega
      obtain ⟨a, rfl, hal, k0, k1, k2⟩ := leasesAt_next HX.out hbr i hil
      obtain ⟨x, hxi⟩ : ∃ x, rs[i] = x := ⟨_, rfl⟩
      rw [hxi] at k0 k1 k2
      have hwx : x.job.size ≤ maxLen := HWB.out x (by rw [← hxi]; exact List.getElem_mem _)
      have hcnt := new_count us rs i
      have Hxi := Lib.hid hxi
      have bA := below_one wr (.cells #[.string x.job, .string x.node, .int .i64 x.til] 42)
      have oA := objAt_new wr #[.string x.job, .string x.node, .int .i64 x.til] 42
      have HK := Lib.hid (leaseKey_is x (wr.alloc (.cells #[.string x.job, .string x.node, .int .i64 x.til] 42)))
      have MA := Lib.hid (mapAt_below hM bA)
      have RA := Lib.hid (own_next hown bA)
      have BA := Lib.hid (below_trans hbr bA hbr.size)
      have OA := Lib.hid oA
      have hnr := Lib.hid (own_nnew hown (Nat.le_refl _))
      have c0 := objAt_cell oA 0 rfl
      have c1 := objAt_cell oA 1 rfl
      have c2 := objAt_cell oA 2 rfl
      have cl := objAt_lt oA
      have hlook := left_look (V := leaseV) HA.out HB.out hil
      obtain ⟨y, hy⟩ := tabF_pick (·.job) leaseV (leftL (·.job) us rs i) x.job zeroL
      obtain ⟨d, hd⟩ : ∃ d, (tabF (·.job) leaseV (leftL (·.job) us rs i) x.job).isSome = d := ⟨_, rfl⟩
      have hfact : (d = true → y ∈ us ∧ y.job = x.job) ∧ (d = false → x ∉ us) := by
        rw [hxi] at hlook
        rcases hlook with ⟨z, hz1, hz2, hz3⟩ | ⟨hz1, hz3⟩
        · rw [hz3] at hd hy
          have ezy : z = y := leaseV_inj hy
          subst ezy
          exact ⟨fun _ => ⟨hz1, hz2⟩, fun e => (by rw [e] at hd; cases hd)⟩
        · rw [hz3] at hd
          exact ⟨fun e => (by rw [e] at hd; cases hd), fun _ hx => hz1 x hx rfl⟩
      have HF := Lib.hid hfact
      have Y1 := Lib.hid hd
      have Z1 : Hid ((tabF (·.job) leaseV (leftL (·.job) us rs i) x.job).getD (leaseV zeroL) = .agg #[.string y.job, .string y.node, .int .i64 y.til]) := hy
      clear hxi bA oA hM hown hal hlook hfact hd hy
      go_wp2_with fail
      refine HK.out.mono ?_
      rintro e w1 ⟨rfl, b1⟩
      have M1 := mapAt_below MA.out b1
      have R1 := own_next RA.out b1
      have O1 := objAt_next OA.out b1
      have B1 := below_trans BA.out b1 BA.out.size
      have hs1 : wr.heap.size < w1.heap.size := objAt_lt O1
      clear HK MA RA OA BA b1 k0 k1 k2 c0 c1 c2 cl
      have b2 := below_one w1 (.cells #[.string y.job, .string y.node, .int .i64 y.til] 42)
      have P2 := objAt_new w1 #[.string y.job, .string y.node, .int .i64 y.til] 42
      have O2 := objAt_next O1 b2
      have d0 := objAt_cell O2 0 rfl
      have d1 := objAt_cell O2 1 rfl
      have d2 := objAt_cell O2 2 rfl
      have p0 := objAt_cell P2 0 rfl
      have p1 := objAt_cell P2 1 rfl
      have p2 := objAt_cell P2 2 rfl
      have dl := objAt_lt O2
      have pl := objAt_lt P2
      have O3 := O2
      have M3 := mapAt_below M1 b2
      have R3 := own_next R1 b2
      have B3 := below_trans B1 b2 B1.size
      have S3 := Lib.hid (And.intro O3 (And.intro M3 (And.intro R3 B3)))
      obtain ⟨c, hc⟩ : ∃ c : Bool, (c = true ↔ (d = false ∨ ¬ y = x)) := by
        classical
        exact ⟨decide (d = false ∨ ¬ y = x), by simp⟩
      have Hc := Lib.hid hc
      clear b2 P2 O2 O1 R1 B1 O3 M3 R3 B3 hc
      go_upto_region 7 with (at_lookup; refine wpList_look_ok _ rfl _ _ 144 rfl 42 Tryz.underlying144 (zeroLease _) _ _ _ rfl M1 x.job rfl hwx _ _ Z1.out Y1.out ?_)
      clear M1
      go_cut [22, 40] from 22 to 49 (fun iv cv wc => iv = .int .i64 (i : Int) ∧ cv = .bool c ∧ wc = w1.alloc (.cells #[.string y.job, .string y.node, .int .i64 y.til] 42))
      case first =>
        clear S3 HF Y1 Z1 Hxi hnr
        cases d with
        | false =>
          have e : c = true := Hc.out.2 (.inl rfl)
          subst e
          go_wp2
          go_meet
          case rel => exact ⟨rfl, rfl, rfl⟩
        | true =>
          by_cases hxy : y = x
          · subst hxy
            have e : c = false := by
              cases c with
              | false => rfl
              | true =>
                rcases Hc.out.1 rfl with h | h
                · cases h
                · exact absurd rfl h
            subst e
            have g0 := lists_eq y.job
            have g1 := lists_eq y.node
            go_wp2
            go_meet
            case rel => exact ⟨rfl, rfl, rfl⟩
          · have e : c = true := Hc.out.2 (.inr hxy)
            subst e
            have hf := firstLease hxy
            clear hxy Hc
            cases x with | mk x_0 x_1 x_2 =>
            cases y with | mk y_0 y_1 y_2 =>
            simp only at hf d0 d1 d2 p0 p1 p2
            rcases hf with hf | ⟨rfl, hf⟩ | ⟨rfl, rfl, hf⟩
            all_goals
              have g0 := lists_eq y_0
              have g1 := lists_eq y_1
              go_wp2
              go_meet
              case rel => exact ⟨rfl, rfl, rfl⟩
      case rest =>
        obtain ⟨rfl, rfl, rfl⟩ := hcut
        obtain ⟨O3, M3, R3, B3⟩ := S3.out
        clear S3 p0 p1 p2 pl Y1 Z1
        cases c with
        | false =>
          have hin : x ∈ us := by
            cases d with
            | false => have := Hc.out.2 (.inl rfl); cases this
            | true =>
              have e : y = x := Classical.byContradiction fun hne => by have := Hc.out.2 (.inr hne); cases this
              rw [← e]
              exact (HF.out.1 rfl).1
          have HE := Lib.hid (new_in hil (show rs[i] ∈ us by rw [Hxi.out]; exact hin))
          clear hin HF Hc d0 d1 d2 dl
          have z_0 := objAt_cell O3 0 rfl
          have z_1 := objAt_cell O3 1 rfl
          have z_2 := objAt_cell O3 2 rfl
          have zl := objAt_lt O3
          have HK2 := Lib.hid (leaseKey_is x (w1.alloc (.cells #[.string y.job, .string y.node, .int .i64 y.til] 42)))
          have MM3 := Lib.hid M3
          have RR3 := Lib.hid R3
          have BB3 := Lib.hid B3
          clear O3 M3 R3 B3
          go_wp2_with fail
          refine HK2.out.mono ?_
          rintro e w4 ⟨rfl, b4⟩
          have M4 := mapAt_below MM3.out b4
          have R4 := own_next RR3.out b4
          have B4 := below_trans BB3.out b4 BB3.out.size
          clear HK2 b4 MM3 RR3 BB3 z_0 z_1 z_2 zl
          go_wp2_with (at_delete; refine wpList_del _ rfl _ _ 144 rfl 42 Tryz.underlying144 _ _ _ rfl M4 x.job rfl hwx ?_)
          intro w5 M5 hg5
          have R5 := R4.kept hg5 (.inr (own_nlow R4 (Nat.lt_succ_self _)).symm)
          have B5 := grownB_below B4 hg5 B4.size (Nat.le_refl _)
          have M6 : MapAt w5 w.heap.size us.length (tabF (·.job) leaseV (leftL (·.job) us rs (i + 1))) := mapAt_ext M5 (fun s => by rw [tabF_drop (left_asc HA.out rs i)]; have hst := left_step (key := (·.job)) (a := us) hil; rw [Hxi.out] at hst; rw [hst])
          clear M5 hg5 M4 R4 B4
          go_wp2
          go_roundw
          case rel => exact ⟨i + 1, by simp, by omega, by rw [HE.out]; exact R5, M6, B5⟩
          case measure => simp [intOf]; omega
        | true =>
          have hout : x ∉ us := by
            cases d with
            | false => exact HF.out.2 rfl
            | true =>
              rcases Hc.out.1 rfl with e | e
              · cases e
              · exact fun hx => e (asc_one HA.out (HF.out.1 rfl).1 hx (HF.out.1 rfl).2)
          have HE := new_out hil (show rs[i] ∉ us by rw [Hxi.out]; exact hout)
          rw [Hxi.out] at HE
          have HE := Lib.hid HE
          obtain ⟨W3, hW3⟩ : ∃ W3, w1.alloc (.cells #[.string y.job, .string y.node, .int .i64 y.til] 42) = W3 := ⟨_, rfl⟩
          rw [hW3] at O3 M3 R3 B3 d0 d1 d2 dl ⊢
          have hsW := B3.size
          have OO := Lib.hid O3
          have MM := Lib.hid M3
          have RR := Lib.hid R3
          have BB := Lib.hid B3
          clear hout HF Hc hW3 O3 M3 R3 B3
          go_wp2_with (at_builtin; refine wpList_append_own _ rfl _ _ 24 rfl (w.heap.size + 1) 42 i0 _ 3 40 Tryz.underlying24 Hi.out Hz0.out Hz1.out Hz2.out rfl (by decide) _ _ _ rfl (RR.out.alloc _) ⟨W3.heap.size, 0, none⟩ 1 1 (cLease x) rfl rfl ?c1 ?c2 ?c3 ?c4 ?c5 ?_)
          case c1 => exact lease_new W3 x _
          case c2 => exact lease_ones x
          case c3 => unfold maxLen; omega
          case c4 => omega
          case c5 => simp; omega
          intro v3 w3 own3 hg3 _
          have M3 := mapAt_kept (mapAt_alloc MM.out _) hg3 (own_nlow RR.out (Nat.lt_succ_self _))
          have O3 := objAt_grown (objAt_next OO.out (below_one _ _)) hg3 hnr.out
          have B3 := (BB.out.alloc BB.out.size _).grown hg3 (by simp; omega) (fun k hk => by have := (RR.out.lt k hk).1; omega)
          rw [← cLeases_one, ← cLeases_append] at own3
          obtain ⟨pd3, pc3, rfl⟩ := ownRow_slice own3
          have R3 := own3
          clear own3 hg3 OO MM RR BB d0 d1 d2 dl hsW
          have z_0 := objAt_cell O3 0 rfl
          have z_1 := objAt_cell O3 1 rfl
          have z_2 := objAt_cell O3 2 rfl
          have zl := objAt_lt O3
          have HK2 := Lib.hid (leaseKey_is x w3)
          have MM3 := Lib.hid M3
          have RR3 := Lib.hid R3
          have BB3 := Lib.hid B3
          clear O3 M3 R3 B3
          go_wp2_with fail
          refine HK2.out.mono ?_
          rintro e w4 ⟨rfl, b4⟩
          have M4 := mapAt_below MM3.out b4
          have R4 := own_next RR3.out b4
          have B4 := below_trans BB3.out b4 BB3.out.size
          clear HK2 b4 MM3 RR3 BB3 z_0 z_1 z_2 zl
          go_wp2_with (at_delete; refine wpList_del _ rfl _ _ 144 rfl 42 Tryz.underlying144 _ _ _ rfl M4 x.job rfl hwx ?_)
          intro w5 M5 hg5
          have R5 := R4.kept hg5 (.inr (own_nlow R4 (Nat.lt_succ_self _)).symm)
          have B5 := grownB_below B4 hg5 B4.size (Nat.le_refl _)
          have M6 : MapAt w5 w.heap.size us.length (tabF (·.job) leaseV (leftL (·.job) us rs (i + 1))) := mapAt_ext M5 (fun s => by rw [tabF_drop (left_asc HA.out rs i)]; have hst := left_step (key := (·.job)) (a := us) hil; rw [Hxi.out] at hst; rw [hst])
          clear M5 hg5 M4 R4 B4
          go_wp2
          go_roundw
          case rel => exact ⟨i + 1, by simp, by omega, by rw [HE.out]; rw [List.length_append]; exact R5, M6, B5⟩
          case measure => simp [intOf]; omega
    · obtain rfl : i = rs.length := by omega
      rw [List.take_length] at hown
      have hlen := lessN_size (key := (·.job)) (l := us) (rs.map (·.job)) rs.length
      obtain ⟨L, hL⟩ : ∃ L, leftL (·.job) us rs rs.length = L := ⟨_, rfl⟩
      have HLA := left_asc HA.out rs rs.length
      have HGL := left_end (key := (·.job)) us rs
      change (leftL (·.job) us rs rs.length).length ≤ us.length at hlen
      rw [hL] at hM HLA HGL hlen
      have HI := Lib.hid (inoLease_is w.heap.size us.length L HLA (by omega) (by omega) wr hM)
      have HR := Lib.hid hown
      have HBR := Lib.hid hbr
      have HG := Lib.hid HGL
      clear hM HLA HGL hL hown
      go_wp2_with fail
      refine HI.out.mono ?_
      rintro e w3 ⟨ld, lc, rfl, own3, b3⟩
      have hL3 := Lib.hid (ownLeases own3 rfl)
      have B3 := Lib.hid (below_trans HBR.out b3 HBR.out.size)
      have R3 := Lib.hid (own_next HR.out b3)
      have hs3 := b3.size
      clear HI HR HBR own3 b3
      go_wp2
      go_loopw [14, 54] (fun pv iv wr => ∃ (j : Nat), iv = .int .i64 (j : Int) ∧ j ≤ L.length ∧ wr.ownsRow w3.heap.size 9 1 pv j (cNms ((L.take j).map (·.job))) ∧ Below w3.heap.size w3 wr) (fun _ iv _ => L.length - (intOf iv).toNat)
      case atStart => exact ⟨0, rfl, Nat.zero_le _, World.ownsRow_nil _ _ _ _, Below.refl _ _⟩
      case round =>
        obtain ⟨j, rfl, hj, hown, hb3⟩ := hrel
        obtain ⟨gad, gcp, rfl⟩ := ownRow_slice hown
        have hbs3 := hb3.size
        by_cases h2 : (j : Int) < (L.length : Int)
        · have hjl : j < L.length := by omega
          obtain ⟨a, rfl, hal, k0, k1, k2⟩ := leasesAt_next hL3.out hb3 j hjl
          obtain ⟨x, hxi⟩ : ∃ x, L[j] = x := ⟨_, rfl⟩
          rw [hxi] at k0 k1 k2
          have Hxi := Lib.hid hxi
          have HT := List.take_succ_eq_append_getElem hjl
          rw [hxi] at HT
          have HT := Lib.hid HT
          rename World => wq
          have bA := below_one wq (.cells #[.string x.job, .string x.node, .int .i64 x.til] 42)
          have oA := objAt_new wq #[.string x.job, .string x.node, .int .i64 x.til] 42
          have HK := Lib.hid (leaseKey_is x (wq.alloc (.cells #[.string x.job, .string x.node, .int .i64 x.til] 42)))
          have RA := Lib.hid (own_next hown bA)
          have BA := Lib.hid (below_trans hb3 bA hb3.size)
          have c0 := objAt_cell oA 0 rfl
          have c1 := objAt_cell oA 1 rfl
          have c2 := objAt_cell oA 2 rfl
          have cl := objAt_lt oA
          clear hxi bA oA hown hal
          go_wp2_with fail
          refine HK.out.mono ?_
          rintro e w4 ⟨rfl, b4⟩
          have R4 := own_next RA.out b4
          have B4 := below_trans BA.out b4 BA.out.size
          have s4 := B4.size
          clear HK RA BA b4 k0 k1 k2 c0 c1 c2 cl
          go_wp2_with (at_builtin; refine wpList_append_own _ rfl _ _ 47 rfl w3.heap.size 9 i1 _ 1 16 Tryz.underlying47 Gi.out Gz0.out Gz1.out Gz2.out rfl (by decide) _ _ _ rfl (R4.alloc _) ⟨w4.heap.size, 0, none⟩ 1 1 [.string x.job] rfl rfl (cell_one_new _ _ _) (by simp [Value.oneCell']) (by unfold maxLen; omega) (by omega) (by simp; omega) ?_)
          intro v5 w5 own5 hg5 _
          have B5 := (B4.alloc B4.size _).grown hg5 (by simp; omega) (fun k hk => (R4.lt k hk).1)
          have own6 : w5.ownsRow w3.heap.size 9 1 v5 (j + 1) (cNms ((L.take (j + 1)).map (·.job))) := by
            rw [HT.out, List.map_append, cNms_append]
            first | exact own5 | (rw [← List.map_take] at own5; exact own5)
          clear own5 hg5 R4 B4 s4
          go_wp2
          go_roundw
          case rel => exact ⟨j + 1, by simp, by omega, own6, B5⟩
          case measure => simp [intOf]; omega
        · obtain rfl : j = L.length := by omega
          rw [List.take_length, HG.out] at hown
          have e1 : L.length = (goneL (·.job) us rs).length := by rw [← HG.out, List.length_map]
          have HE1 := Lib.hid e1
          have Q := Lib.hid (ownsRow_low (B' := w.heap.size) hown (by have := B3.out.size; omega))
          have R5 := Lib.hid (ownsRow_low (B' := w.heap.size) (own_next R3.out hb3) (by omega))
          have B5 := Lib.hid (below_trans B3.out hb3 B3.out.size)
          clear hown e1 hb3
          go_wp2
          go_ret2
          exact ⟨pad, pcap, gad, gcp, by rw [← HE1.out]; rfl, R5.out, by rw [← HE1.out]; exact Q.out, B5.out⟩
end Go.Proofs.YthpgkfonbmffdaaGreatDoor
