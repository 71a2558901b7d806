/- The coder of package wire: a number whose value is not used when it reads. -/
import Derived.Test.YtklpmhiaihabaaaGPkDl3
import Derived.Test.YtklpmhiaihabaaaGPkWi3
namespace Go.Proofs.Ytklpmhiaihabaaa
open Go.RowKit

theorem lim_any {most n k : Nat} {m : M} (hr : m.reading = true) : limS most n m = limS most k m := by
  unfold limS
  rw [if_pos hr, if_pos hr]
theorem lim_top {most n : Nat} {m : M} (hr : m.reading = true) : (limS most n m).1 ≤ most := by
  rw [lim_any (k := 0) hr]
  exact lim_le (Nat.zero_le _) m
set_option maxRecDepth 100000 in
theorem number_rd {b : Nat} {v : Int} {m : M} (n : Int) (hr : m.reading = true) (hs : m.rest.size ≤ 1152921504606846976) (hg : m.gs.length ≤ 1073741824) (w : World) (h : CodeAt b v m w) :
    Calls Try.prog 50 #[.pointer (some ⟨b, 0, none⟩), .int .i64 n] w fun r w' => r = .returned (.int .i64 (numbS n m).1) ∧ CodeAt b v (numbS n m).2 w' ∧ Keep b w w' := by
  have hk0 : 0 ≤ IntKind.u64.wrap n ∧ IntKind.u64.wrap n < 18446744073709551616 := by rw [IntKind.wrap_u64]; omega
  obtain ⟨k, hk⟩ : ∃ k : Nat, IntKind.u64.wrap n = k := ⟨(IntKind.u64.wrap n).toNat, by omega⟩
  rw [hk] at hk0
  have H := Lib.hid (limited_is 4611686018427387904 k (by omega) hs hg w h)
  have hle := lim_top (most := 4611686018427387904) (n := k) hr
  have e : numbS n m = (((limS 4611686018427387904 k m).1 : Int), (limS 4611686018427387904 k m).2) := by
    rw [lim_any (k := n.toNat) hr]
    rfl
  rw [e]
  generalize limS 4611686018427387904 k m = r at H hle ⊢
  have w2 : wrap64 (r.1 : Int) = (r.1 : Int) := by unfold wrap64; omega
  clear e h hk0
  go_enter Try.func50, Try.ntmps50
  go_wp2_with fail
  refine H.out.mono ?_
  rintro x w1 ⟨rfl, h1, k1⟩
  go_wp2
  go_ret
  exact ⟨by first | rfl | (rw [w2]) | simp [w2], h1, k1⟩
theorem number_gen {b : Nat} {v : Int} {m : M} (n : Int) (hn : (0 ≤ n ∧ n ≤ 4611686018427387904) ∨ m.reading = true) (hs : m.rest.size ≤ 1152921504606846976) (hg : m.gs.length ≤ 1073741824) (w : World) (h : CodeAt b v m w) :
    Calls Try.prog 50 #[.pointer (some ⟨b, 0, none⟩), .int .i64 n] w fun r w' => r = .returned (.int .i64 (numbS n m).1) ∧ CodeAt b v (numbS n m).2 w' ∧ Keep b w w' := by
  rcases hn with hn | hn
  · exact number_in n hn hs hg w h
  · exact number_rd n hn hs hg w h
theorem numb_top {n : Int} {m : M} (hn : (0 ≤ n ∧ n ≤ 4611686018427387904) ∨ m.reading = true) : 0 ≤ (numbS n m).1 ∧ (numbS n m).1 ≤ 4611686018427387904 := by
  have h : (limS 4611686018427387904 n.toNat m).1 ≤ 4611686018427387904 := by
    rcases hn with hn | hn
    · exact lim_le (by omega) m
    · exact lim_top hn
  have e : (numbS n m).1 = ((limS 4611686018427387904 n.toNat m).1 : Int) := rfl
  rw [e]
  omega
theorem numb_same {n : Int} {m : M} (hn : 0 ≤ n) (hr : m.reading = false) : (numbS n m).1 = n := by
  have e : (numbS n m).1 = ((limS 4611686018427387904 n.toNat m).1 : Int) := rfl
  rw [e]
  unfold limS
  rw [if_neg (by rw [hr]; simp)]
  simp only
  omega
/-- A delta that came lies below the coder. -/
def MemD (b : Nat) (Md : DlM) (d : DelD) (w : World) : Prop := ∃ w0 : World, w0.heap.size = b ∧ Below b w0 w ∧ DeltaAt w0 Md d
theorem memD_keep {b : Nat} {Md : DlM} {d : DelD} {w w' : World} (h : MemD b Md d w) (hk : Keep b w w') : MemD b Md d w' := by
  obtain ⟨w0, hs, hb, h1⟩ := h
  have := hb.size
  exact ⟨w0, hs, hb.trans (keep_low hk (by omega)), h1⟩
theorem memD_at {b : Nat} {Md : DlM} {d : DelD} {w : World} (h : MemD b Md d w) : DeltaAt w Md d := by
  obtain ⟨w0, rfl, hb, h1⟩ := h
  exact deltaAt_next h1 hb
theorem lim_nms [Inhabited UV] (most : Nat) (l : List ByteArray) (hl : ∀ x ∈ l, isNote V8 x = true) (hn : l.length ≤ most) (hm : most ≤ 40) : Lim 3000 (rowsS most ⟨#[]⟩ txtS l) :=
  lim_rows (ok := fun x => isNote V8 x = true) most ⟨#[]⟩ l v_empty hl hn hm (fun x hx => lim_mono (lim_txt hx) (by omega))
end Go.Proofs.Ytklpmhiaihabaaa
