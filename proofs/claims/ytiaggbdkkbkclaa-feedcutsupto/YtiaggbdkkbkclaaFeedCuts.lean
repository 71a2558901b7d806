/- For every string s and slice of ints at, of bulk at most 1048576 together, the law FeedCuts of the package brackenkeep returns true: however a stream is divided, a feed returns the same frames, the same position and the same error. Condition: the bound on the bulk. -/
import Derived.Test.YtiaggbdkkbkclaaFdCut
import Derived.JoinedCond
namespace Go.Proofs.Ytiaggbdkkbkclaa.feedCuts
open Go.ChangeShapes Go.WideShapes Go.ChangeAt Go.RowKit
open Go.ChangeMaps (open_string shut_string)
set_option linter.unusedVariables false

theorem str_at {w : World} {B t n cap : Nat} {ad : Option Addr} {ps : List ByteArray} (h : w.ownsRow B t 1 (.slice ad n cap) n (strCells ps)) (i : Nat) (hi : i < ps.length) (hn : 0 < n) : ∃ g, ad = some ⟨g, 0, none⟩ ∧ w.cell? ⟨g, i, none⟩ = some (.string ps[i]) := by
  rcases h.2 with ⟨_, h0⟩ | ⟨g, cap', cur, hv, _⟩
  · omega
  · have hv' := hv
    simp only [Value.slice.injEq] at hv
    refine ⟨g, hv.1, ?_⟩
    have := h.cells (g := g) (by rw [hv.1]; rfl) i (.string ps[i]) (by simp [strCells, hi])
    rwa [addr_add] at this
set_option maxRecDepth 100000 in
set_option maxHeartbeats 2000000 in
theorem walk (a0 : ByteArray) (ad1 : Option Addr) (cap1 : Nat) (xs1 : List Int) (w0 : a0.size ≤ maxLen) (s0 : a0.size ≤ 1048576) (s1 : xs1.length ≤ 1048576) (w : World) (m1 : IntsAt w ad1 xs1) :
    Calls Try.prog 4 #[.string a0, .slice ad1 xs1.length cap1] w fun e w' => e = .returned (.bool true) ∧ Below w.heap.size w w' := by
  obtain ⟨i0, hi, hz0, hz1, hz2⟩ := info_parts Try.infoFrame
  have Hi := Lib.hid hi
  have Hz0 := Lib.hid hz0
  have Hz1 := Lib.hid hz1
  have Hz2 := Lib.hid hz2
  clear hi hz0 hz1 hz2
  obtain ⟨fs, r0, p0, c0, hp⟩ := pushed_any' (⟨#[]⟩ : ByteArray).data.toList 0 0 a0.data.toList
  have hbd := pushed_bd hp
  rw [size_data, size_data, size_data] at hbd
  have hz : (⟨#[]⟩ : ByteArray).size = 0 := rfl
  rw [hz] at hbd
  have HP := Lib.hid hp
  have HM := Lib.hid m1
  clear w0 hp m1
  obtain ⟨hb1, hb2, _⟩ := hbd
  clear hz
  go_enter Try.func4, Try.ntmps4
  go_wp2_with fail
  refine (fed_any _).mono ?_
  rintro e v1 ⟨rfl, b1⟩
  go_wp2_with fail
  refine (new_is _).mono ?_
  rintro e v2 ⟨rfl, f2, b2, l2⟩
  go_wp2_with fail
  refine (new_is _).mono ?_
  rintro e v3 ⟨rfl, g3, b3, l3⟩
  have f3 := feedAt_next f2 b3
  have hs1 := b1.size
  go_wp2_with fail
  refine (push_is f3 a0 fs r0 p0 c0 HP.out (by rw [show (⟨#[]⟩ : ByteArray).size = 0 from rfl]; omega) (by omega) (by omega)).mono ?_
  rintro e v4 ⟨va, rfl, o4, f4, k4⟩
  have g4 := feedAt_row g3 k4 (by simp; omega)
  have h4 := Lib.hid (below2 b1 (grownBy_below' (below2 b2 b3) k4 (below2 b2 b3).size (Nat.le_refl _)))
  have hs4 := k4.size
  have HC := Lib.hid (cut_is a0 s0 ad1 cap1 xs1 s1 v4 (intsAt_next HM.out h4.out))
  go_wp2_with fail
  refine HC.out.mono ?_
  rintro e v5 ⟨vp, ps, rfl, o5, hj, hpl, b5⟩
  have hs5 := b5.size
  have f5 := feedAt_next f4 b5
  have g5 := feedAt_next g4 b5
  have oa := own_below o4 b5
  have h5 := Lib.hid (below2 h4.out b5)
  obtain ⟨ad5, cap5, rfl⟩ := own_slice o5
  obtain ⟨bf, hbf⟩ : ∃ bf, v1.heap.size = bf := ⟨_, rfl⟩
  obtain ⟨bg, hbg⟩ : ∃ bg, v2.heap.size = bg := ⟨_, rfl⟩
  rw [hbf] at f5
  rw [hbg] at g5
  have hjl : (joined ps).length = a0.size := by rw [hj, size_data]
  have HJ := Lib.hid hj
  have F5 := Lib.hid f5
  have OA := Lib.hid oa
  have O5 := Lib.hid o5
  have hnb : bf < bg := by omega
  have hgb : bg < v3.heap.size := by omega
  have hwg : w.heap.size ≤ bg := by omega
  rw [hbf, hbg]
  clear f2 f3 f4 g3 g4 f5 oa o4 o5 k4 b1 b2 b3 b5 l2 l3 HM h4 hj HC
  go_wp2
  go_loopw [9, 10, 29] (fun bv hv iv wr => ∃ (i : Nat) (bs : List Fr) (r : ByteArray) (a c : Nat), iv = .int .i64 (i : Int) ∧ i ≤ ps.length ∧ hv = .int .i64 (c : Int) ∧ wr.ownsRow v5.heap.size 33 3 bv bs.length (frCells bs) ∧ Hid (Pushed [] 0 0 (joined (ps.take i)) bs r.data.toList a c) ∧ FeedAt wr bg r a c ∧ v5.grownBy wr (some bg)) (fun _ _ iv _ => ps.length - (intOf iv).toNat)
  case atStart => exact ⟨0, [], ⟨#[]⟩, 0, 0, rfl, by omega, rfl, World.ownsRow_nil _ _ _ _, pushed_none, g5, grownBy_refl _ _⟩
  case round =>
    clear g5
    obtain ⟨i, bs, r, a, c, rfl, hil, rfl, hown, HD, hf, hg⟩ := hrel
    have hsg := hg.size
    by_cases h : (i : Int) < (ps.length : Int)
    · have hi : i < ps.length := by omega
      obtain ⟨gp, rfl, k0⟩ := str_at (O5.out.kept hg (own_apart O5.out (by omega))) i hi (by omega)
      obtain ⟨p, hp⟩ : ∃ p, ps[i] = p := ⟨_, rfl⟩
      rw [hp] at k0
      have hat := joined_at ps i hi
      have hjt := joined_take ps i hi
      rw [hp] at hat hjt
      obtain ⟨ls, r', a', c', hq⟩ := pushed_any' r.data.toList a c p.data.toList
      have hbd0 := pushed_bd HD.out
      have hbd1 := pushed_bd hq
      have hon := pushed_on HD.out hq
      rw [← hjt] at hon
      have hbd2 := pushed_bd hon
      have hle := joined_le ps (i + 1)
      simp only [size_data, List.length_append, List.length_nil] at hbd0 hbd1 hbd2
      have q1 : r.size + p.size ≤ 1048576 := by omega
      have q2 : 9 * ls.length ≤ 1048576 := by omega
      have q3 : a' ≤ 1048576 := by omega
      have q4 : 9 * (bs.length + ls.length) ≤ 1048576 := by omega
      have HQ := Lib.hid hq
      have HON := Lib.hid hon
      clear hbd0 hbd1 hbd2 hle hat hjt hp hq hon
      have hx := (push_is hf p ls r' a' c' HQ.out (by omega) (by omega) (by omega))
      have HX := Lib.hid hx
      clear hx hf
      go_wp2_with fail
      refine HX.out.mono ?_
      rintro e w1 ⟨vl, rfl, o1, f1, g1⟩
      have hown1 := hown.kept g1 (own_apart hown (by omega))
      have hg1 := grownBy_trans hg g1
      have hs1 := hg1.size
      clear hown hg g1 HX
      rcases o1.2 with ⟨rfl, hl0⟩ | ⟨gl, capl, cur, rfl, hgl, _⟩
      · obtain rfl : ls = [] := List.eq_nil_of_length_eq_zero hl0
        go_wp2_with (at_builtin; refine wpList_append_own_none rfl _ _ 26 rfl v5.heap.size 33 i0 3 Try.underlying26 Hi.out _ _ _ rfl hown1 rfl ?_)
        go_wp2
        go_roundw
        case rel => exact ⟨i + 1, bs, r', a', c', by simp, by omega, rfl, hown1, by have := HON.out; rw [List.append_nil] at this; exact this, f1, hg1⟩
        case measure => simp [intOf]; omega
      · have hcl := o1.cells (g := gl) rfl
        go_wp2_with (at_builtin; refine wpList_append_own _ rfl _ _ 26 rfl v5.heap.size 33 i0 _ 3 32 Try.underlying26 Hi.out Hz0.out Hz1.out Hz2.out rfl (by decide) _ _ _ rfl hown1 ⟨gl, 0, none⟩ ls.length capl (frCells ls) rfl (frCells_length ls) ?c1 ?c2 ?c3 ?c4 ?c5 ?_)
        case c1 => exact hcl
        case c2 => exact frCells_ones _
        case c3 => unfold maxLen; omega
        case c4 => omega
        case c5 => omega
        · intro v' w2 hown2 hgrow _
          have hg2 := grownBy_fresh hg1 hgrow (fun j hj => (hown1.lt j hj).1)
          have f2 := feedAt_row f1 hgrow (own_ne hown1 (by omega))
          rw [← frCells_append] at hown2
          clear hown1 hgrow hg1 f1 o1 hcl
          go_wp2
          go_roundw
          case rel => exact ⟨i + 1, bs ++ ls, r', a', c', by simp, by omega, rfl, by simpa using hown2, HON.out, f2, hg2⟩
          case measure => simp [intOf]; omega
    · obtain rfl : i = ps.length := by omega
      have HD2 := HD.out
      rw [List.take_length, HJ.out] at HD2
      obtain ⟨rfl, hr, rfl, rfl⟩ := pushed_one HD2 HP.out
      obtain rfl := bytes_of hr
      have oa := OA.out.kept hg (own_apart OA.out (by omega))
      have ff := feedAt_row F5.out hg (by simp; omega)
      have HE := Lib.hid (eq_same bs oa hown (by omega))
      have hb := Lib.hid (grownBy_below' h5.out hg h5.out.size hwg)
      clear HD HD2 oa hown hr hg
      go_wp2_with fail
      refine HE.out.mono ?_
      rintro e v6 ⟨rfl, b6⟩
      have f6 := feedAt_next ff b6
      have g6 := feedAt_next hf b6
      clear ff hf
      go_wp2_with fail
      refine (at_is f6).mono ?_
      rintro e v7 ⟨rfl, rfl⟩
      go_wp2_with fail
      refine (at_is g6).mono ?_
      rintro e v7 ⟨rfl, rfl⟩
      go_wp2_with fail
      refine (left_is f6).mono ?_
      rintro e v7 ⟨rfl, rfl⟩
      go_wp2_with fail
      refine (left_is g6).mono ?_
      rintro e v7 ⟨rfl, rfl⟩
      go_wp2
      go_ret
      exact ⟨rfl, below2 hb.out b6⟩

theorem own : ownKnob Try.prog.godebug = none := by kernel_rfl
theorem laidOut : laidOutB Try.prog = true := by kernel_rfl
set_option maxRecDepth 100000 in
theorem lifted (os : Os) (started : os.Started) (H : Type) (enc : TypeId × Value → H) (F : Stop.Interp) :
    ReturnsInHanded {} Try.checked os 4 .any ((Rows.OpenSpec.upto Rows.feedCutsSpec).pre6 enc Try.prog Try.f4 Rows.feedCutsUptoRow.domain false) (((Rows.OpenSpec.upto Rows.feedCutsSpec).at F).post enc Try.prog Try.f4 false true false false) := by
  refine returnsInHanded_of_cond (C := Try.checked) (s := Rows.OpenSpec.upto Rows.feedCutsSpec) (k := Rows.uptoSmall) rfl own started (by kernel_rfl) Try.func4
    (OpenSpec.witness (enc := enc) (C := Try.checked) (s := Rows.OpenSpec.upto Rows.feedCutsSpec) (k := Rows.uptoSmall) rfl false ⟨#[], #[.string ByteArray.empty, .slice none 0 0], []⟩ 8 (by kernel_rfl) (by kernel_rfl) (by kernel_rfl)
      (x := ([.lit (.string []), .nil], [], [])) (by kernel_rfl) rfl (by kernel_rfl)) ?_
  intro W base args ds gs before hval0 hW _ hk0 _
  have hval : ∀ (j : Nat) t v, Try.f4.params[j]? = some t → args[j]? = some v → Value.okWide Try.prog W .any base t v := hval0
  have hW' := hW
  obtain ⟨p, q, hA0, hV, rfl, hfz, hnd⟩ := hW
  have hA : DataW.TrodAll enc Try.prog W 0 (fun _ => true) true Try.f4.params.toList args.toList ds p := hA0
  rw [Try.params4] at hA hval
  obtain ⟨v0, vs0, d0, ds0, p0, q0, hargs, rfl, rfl, h0, r0⟩ := trodAll_cons hA
  obtain ⟨v1, vs1, d1, ds1, p1, q1, rfl, rfl, rfl, h1, r1⟩ := trodAll_cons r0
  obtain ⟨rfl, rfl, rfl⟩ := trodAll_nil r1
  obtain rfl : args = #[v0, v1] := by cases args; simp_all
  obtain ⟨rfl, rfl⟩ := trodVars_none hV
  have hk := hk0
  obtain ⟨a0, rfl, rfl, rfl, w0⟩ := open_string Try.underlying9 (hval 0 9 v0 rfl rfl) h0
  obtain ⟨ad1, cap1, xs1, rfl, m1, x1⟩ := open_nums (hval 1 36 v1 rfl rfl) h1
  have s0 : a0.size ≤ 1048576 := upto_string hk (j := 0) rfl
  have s1 := upto_nums hk (j := 1) rfl x1
  clear hA0 hval0
  refine (walk a0 ad1 cap1 xs1 w0 s0 s1 W m1).mono fun e W' ⟨he, bel⟩ => ?_
  subst he
  exact ⟨_, rfl, _, _, _, [], _, [], hW', trodAll_mk1 (shut_bool Try.underlying4 _), (trodAll_cons_mk (shut_string Try.underlying9 w0) (trodAll_cons_mk (Below.trod laidOut (by kernel_rfl) (of_decide_eq_true (by kernel_rfl)) h1 bel (fun x hx => by simpa using hW'.lt x (by simp [hx]))) trodAll_mk0)), rfl, bel.frame _, fun h => by cases h⟩

theorem proved : Rows.FeedCutsUptoSaid :=
  OpenClaim.holds_of_cond 4 Try.f4 rfl rfl rfl rfl rfl rfl rfl ⟨rfl, rfl, rfl, rfl, rfl⟩ rfl rfl rfl rfl rfl (by kernel_rfl) Try.func4 (by kernel_rfl)
    (of_decide_eq_true (by kernel_rfl)) (by unfold Func.isWrapper; first | (rw [if_pos (by decide +kernel)]; kernel_rfl) | (rw [if_neg (by decide +kernel)]; exact ⟨rfl, rfl⟩))
    (fun os started H enc _ F => lifted os started H enc F)
#print axioms proved
end Go.Proofs.Ytiaggbdkkbkclaa.feedCuts
