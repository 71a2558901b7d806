/- The coder of package wire: the rows of a table of names. -/
import Derived.Test.YthfbjmjohmkfjaaDoorPkWi3
import Derived.Test.YthfbjmjohmkfjaaDoorPkDl1
namespace Go.Proofs.YthfbjmjohmkfjaaDoor
open Go.RowKit

theorem info_strs : (Tryd.prog.info? 9).map (fun i => (i.zero, i.size, i.bytes)) = some (some (.string ⟨#[]⟩), 1, 16) := by kernel_rfl
set_option maxRecDepth 100000 in
set_option maxHeartbeats 4000000 in
theorem codeNms_is {b : Nat} {v : Int} {m : M} (xs : List ByteArray) (ad : Option Addr) (cap most : Nat) (hlen : xs.length ≤ most) (hmost : most ≤ 40) (hok : ∀ x ∈ xs, isNote V8 x = true) (hs : m.rest.size ≤ 1152921504606846976) (hg : m.gs.length ≤ 900000000) (w : World) (h : CodeAt b v m w) (hE : Env b w)
    (hx : ∀ w', Keep b w w' → NmsAt w' ad xs) (cb mb : Nat) (h1 : ObjAt cb #[.pointer (some ⟨b, 0, none⟩)] 37 w) (h2 : ObjAt mb #[.int .u64 (most : Int)] 87 w) :
    Calls Tryd.prog 48 #[.slice ad xs.length cap, .func (.func 88) #[] #[.pointer (some ⟨cb, 0, none⟩), .pointer (some ⟨mb, 0, none⟩)], .func (.func 49) #[.pointer (some ⟨b, 0, none⟩)] #[]] w fun r w' => ∃ x, r = .returned x ∧ w'.ownsRow w.heap.size 9 1 x (rowsS most ⟨#[]⟩ txtS xs m).1.length (cNms (rowsS most ⟨#[]⟩ txtS xs m).1) ∧ CodeAt b v (rowsS most ⟨#[]⟩ txtS xs m).2 w' ∧ Keep b w w' := by
  have H0 := Lib.hid (count_is most xs.length cb mb hlen (by omega) hs (by omega) w h h1 h2)
  have hle := lim_le hlen m
  have hll := lim_lim (most := most) (n := xs.length) (by omega) m
  have eR : rowsS most ⟨#[]⟩ txtS xs m = goS txtS (padL ⟨#[]⟩ xs (limS most xs.length m).1) (limS most xs.length m).2 := rfl
  rw [eR]
  generalize limS most xs.length m = q at H0 hle hll ⊢
  obtain ⟨n, m1⟩ := q
  simp only at hle hll H0 ⊢
  have hpl := padL_length (⟨#[]⟩ : ByteArray) xs n
  have hok2 : ∀ (i : Nat) (hi : i < (padL ⟨#[]⟩ xs n).length), isNote V8 (padL ⟨#[]⟩ xs n)[i] = true := by
    intro i hi
    by_cases hil : i < xs.length
    · rw [padL_in _ _ _ _ hi hil]; exact hok _ (List.getElem_mem _)
    · rw [padL_out _ _ _ _ hi hil]; decide
  have hlt := code_lt h
  have HX := Lib.hid hx
  have HE := Lib.hid hE
  have HOK := Lib.hid hok2
  have HPL := Lib.hid hpl
  obtain ⟨i0, qi, qz0, qz1, qz2⟩ := info_parts' info_strs
  have Hi := Lib.hid qi
  have Hz0 := Lib.hid qz0
  have Hz1 := Lib.hid qz1
  have Hz2 := Lib.hid qz2
  clear hx hE hok hok2 h h1 h2 qi qz0 qz1 qz2 eR hlen hpl
  go_enter Tryd.func48, Tryd.ntmps48
  go_wp2_with fail
  refine H0.out.mono ?_
  rintro r w1 ⟨rfl, hc1, hk1⟩
  clear H0
  go_wp2
  go_loopw [7, 14] (fun pv iv wr => ∃ (i : Nat) (mi : M) (ys : List ByteArray), iv = .int .i64 (i : Int) ∧ i ≤ n ∧ wr.ownsRow w.heap.size 9 1 pv ys.length (cNms ys) ∧ ys.length = i ∧ CodeAt b v mi wr ∧ Keep b w wr ∧ mi.gs.length ≤ 900000010 + 64 * i ∧ mi.rest.size ≤ 1152921504606846976 ∧ Hid (goS txtS (padL ⟨#[]⟩ xs n) m1 = (ys ++ (goS txtS ((padL ⟨#[]⟩ xs n).drop i) mi).1, (goS txtS ((padL ⟨#[]⟩ xs n).drop i) mi).2))) (fun _ iv _ => n - (intOf iv).toNat)
  case atStart => exact ⟨0, m1, [], rfl, Nat.zero_le _, World.ownsRow_nil _ _ _ _, rfl, hc1, hk1, by omega, by omega, by show _ = _; simp⟩
  case round =>
    clear hc1 hk1
    obtain ⟨i, mi, ys, rfl, hi, hown, hyl, hcode, hk, hgl, hrl, HG⟩ := hrel
    by_cases h : (i : Int) < (n : Int)
    · have hin : i < (padL ⟨#[]⟩ xs n).length := by rw [HPL.out]; omega
      have hpad := go_at hin HG.out
      have hokx := HOK.out i hin
      have hT := env_tabs (env_keep HE.out hk)
      have hwr := hk.size
      have hlm := lim_txt hokx mi
      obtain ⟨u, hu⟩ : ∃ u, txtS (padL ⟨#[]⟩ xs n)[i] mi = u := ⟨_, rfl⟩
      rw [hu] at hpad hlm
      have HP := Lib.hid hpad
      clear hpad HG
      by_cases hil : (i : Int) < (xs.length : Int)
      · have hil' : i < xs.length := by omega
        obtain ⟨a, rfl, hal, k0⟩ := HX.out _ hk i hil'
        obtain ⟨x, hxi⟩ : ∃ x, xs[i] = x := ⟨_, rfl⟩
        rw [padL_in _ _ _ _ hin hil', hxi] at hu hokx
        rw [hxi] at k0
        have HJ := codeText_is x (fun _ => hokx) hrl (by omega) _ hcode hT
        rw [hu] at HJ
        have HJ := Lib.hid HJ
        clear hokx hu hT hxi
        go_wp2_with fail
        refine HJ.out.mono ?_
        rintro r w2 ⟨rfl, hc2, hk2⟩
        have K2 := hk2
        have hown2 := keep_row hown K2 hlt (by decide)
        have hsz := K2.size
        clear HJ k0 hal
        go_wp2_with (at_builtin; refine wpList_append_own _ rfl _ _ 25 rfl w.heap.size 9 i0 _ 1 16 Tryd.underlying25 Hi.out Hz0.out Hz1.out Hz2.out rfl (by decide) _ _ _ rfl (hown2.alloc _) ⟨w2.heap.size, 0, none⟩ 1 1 [.string u.1] rfl rfl ?c1 ?c2 ?c3 ?c4 ?c5 ?_)
        case c1 => exact cell_one_new _ _ _
        case c2 => simp [Value.oneCell']
        case c3 => unfold maxLen; omega
        case c4 => omega
        case c5 => simp; omega
        · intro v3 w3 own3 hg3 _
          have hc3 := code_grown (code_alloc hc2 _) (hown2.alloc _) hg3 hlt (by decide)
          have hk3 := keep_grown (keep_trans (keep_trans hk K2) (keep_alloc b w2 _)) hg3 (fun k hk' => (hown2.lt k hk').1)
          clear hcode hk hc2 hk2 hown hown2 hg3 K2
          go_wp2
          go_roundw
          case rel => exact ⟨i + 1, u.2, ys ++ [u.1], by simp, by omega, by rw [cNms_append, List.length_append]; simpa [hyl, cNms] using own3, by simp [hyl], hc3, hk3, by omega, by omega, HP.out⟩
          case measure => simp [intOf]; omega
      · have hil' : ¬ i < xs.length := by omega
        rw [padL_out _ _ _ _ hin hil'] at hu hokx
        have HJ := codeText_is ⟨#[]⟩ (fun _ => hokx) hrl (by omega) _ hcode hT
        rw [hu] at HJ
        have HJ := Lib.hid HJ
        clear hokx hu hT
        go_wp2_with fail
        refine HJ.out.mono ?_
        rintro r w2 ⟨rfl, hc2, hk2⟩
        have K2 := hk2
        have hown2 := keep_row hown K2 hlt (by decide)
        have hsz := K2.size
        clear HJ
        go_wp2_with (at_builtin; refine wpList_append_own _ rfl _ _ 25 rfl w.heap.size 9 i0 _ 1 16 Tryd.underlying25 Hi.out Hz0.out Hz1.out Hz2.out rfl (by decide) _ _ _ rfl (hown2.alloc _) ⟨w2.heap.size, 0, none⟩ 1 1 [.string u.1] rfl rfl ?c1 ?c2 ?c3 ?c4 ?c5 ?_)
        case c1 => exact cell_one_new _ _ _
        case c2 => simp [Value.oneCell']
        case c3 => unfold maxLen; omega
        case c4 => omega
        case c5 => simp; omega
        · intro v3 w3 own3 hg3 _
          have hc3 := code_grown (code_alloc hc2 _) (hown2.alloc _) hg3 hlt (by decide)
          have hk3 := keep_grown (keep_trans (keep_trans hk K2) (keep_alloc b w2 _)) hg3 (fun k hk' => (hown2.lt k hk').1)
          clear hcode hk hc2 hk2 hown hown2 hg3 K2
          go_wp2
          go_roundw
          case rel => exact ⟨i + 1, u.2, ys ++ [u.1], by simp, by omega, by rw [cNms_append, List.length_append]; simpa [hyl, cNms] using own3, by simp [hyl], hc3, hk3, by omega, by omega, HP.out⟩
          case measure => simp [intOf]; omega
    · obtain rfl : i = n := by omega
      have hEnd : goS txtS (padL ⟨#[]⟩ xs i) m1 = (ys, mi) := go_end (by rw [HPL.out]; exact HG.out)
      have HN := Lib.hid hEnd
      clear hEnd HG
      go_wp2
      go_ret
      exact ⟨_, rfl, by rw [HN.out]; exact hown, by rw [HN.out]; exact hcode, hk⟩
end Go.Proofs.YthfbjmjohmkfjaaDoor
