import Derived.Test.YtiaggbdkkbkclaaFdEq
import Derived.Test.YtiaggbdkkbkclaaFdStrs
import Derived.Test.YtiaggbdkkbkclaaRest
namespace Go.Proofs.Ytiaggbdkkbkclaa
open Go.RowKit

theorem Try.infoString : (Try.prog.info? 9).map (fun i => (i.zero, i.size, i.bytes)) = some (some (.string ⟨#[]⟩), 1, 16) := by kernel_rfl
def strCells (l : List ByteArray) : List Value := l.map fun b => .string b
theorem strCells_append (a b : List ByteArray) : strCells (a ++ b) = strCells a ++ strCells b := by simp [strCells]
theorem str_new (w : World) (b : ByteArray) (t : TypeId) : ∀ j u, (strCells [b])[j]? = some u → (w.alloc (.cells #[.string b] t)).cell? ((⟨w.heap.size, 0, none⟩ : Addr).add j) = some u :=
  cell_one_new w _ t
theorem str_cell (b : ByteArray) : ∀ u : Value, u ∈ strCells [b] → u.oneCell' = true := by
  intro u hu; simp [strCells] at hu; subst hu; rfl
theorem emod_at (a : Int) (n : Nat) : ∃ j : Nat, a % ((n : Int) + 1) = (j : Int) ∧ j ≤ n := by
  have h1 := Int.emod_nonneg a (b := (n : Int) + 1) (by omega)
  have h2 := Int.emod_lt_of_pos a (b := (n : Int) + 1) (by omega)
  exact ⟨(a % ((n : Int) + 1)).toNat, by omega, by omega⟩
set_option maxRecDepth 100000 in
set_option maxHeartbeats 1000000 in
/-- A string in pieces: whatever the cuts, the pieces are the string. -/
theorem cut_is (s : ByteArray) (hs : s.size ≤ 1048576) (ad : Option Addr) (cap : Nat) (zs : List Int) (hz : zs.length ≤ 1048576) (w : World) (hm : IntsAt w ad zs) :
    Calls Try.prog 15 #[.string s, .slice ad zs.length cap] w fun e w' => ∃ v ps, e = .returned v ∧ w'.ownsRow w.heap.size 9 1 v ps.length (strCells ps) ∧ joined ps = s.data.toList ∧ ps.length ≤ 1048577 ∧ Below w.heap.size w w' := by
  obtain ⟨i0, hi, hz0, hz1, hz2⟩ := info_parts Try.infoString
  have Hi := Lib.hid hi
  have Hz0 := Lib.hid hz0
  have Hz1 := Lib.hid hz1
  have Hz2 := Lib.hid hz2
  clear hi hz0 hz1 hz2
  have HM := Lib.hid hm
  clear hm
  go_enter Try.func15, Try.ntmps15
  go_wp2
  go_loopw [0, 5, 11] (fun sv v iv wr => ∃ (i : Nat) (ps : List ByteArray) (q : ByteArray), iv = .int .i64 (i : Int) ∧ i ≤ zs.length ∧ ps.length = i ∧ sv = .string q ∧ q.size ≤ 1048576 ∧ Hid (joined ps ++ q.data.toList = s.data.toList) ∧ wr.ownsRow w.heap.size 9 1 v ps.length (strCells ps) ∧ Below w.heap.size w wr) (fun _ _ iv _ => zs.length - (intOf iv).toNat)
  case atStart => exact ⟨0, [], s, rfl, by omega, rfl, rfl, hs, rfl, World.ownsRow_nil _ _ _ _, Below.refl _ _⟩
  case round =>
    obtain ⟨i, ps, q, rfl, hil, hpl, rfl, hq, HJ, hown, hbr⟩ := hrel
    have hsz := hbr.size
    by_cases h : (i : Int) < (zs.length : Int)
    · have hi : i < zs.length := by omega
      obtain ⟨a, rfl, hal, k0⟩ := intsAt_next HM.out hbr i hi
      obtain ⟨z, hz⟩ : ∃ z, zs[i] = z := ⟨_, rfl⟩
      rw [hz] at k0
      obtain ⟨k, hk, hkq⟩ := emod_at z q.size
      have HR := Lib.hid (rest_is z ((q.size : Int) + 1) (by omega) (by omega))
      rw [hk] at HR
      have hw : IntKind.i64.wrap ((q.size : Int) + 1) = (q.size : Int) + 1 := IntWalk.i64_in _ (by omega)
      obtain ⟨X, hX⟩ : ∃ X, q.extract 0 k = X := ⟨_, rfl⟩
      obtain ⟨Y, hY⟩ : ∃ Y, q.extract k q.size = Y := ⟨_, rfl⟩
      have HXY : Hid (joined (ps ++ [X]) ++ Y.data.toList = s.data.toList ∧ Y.size ≤ 1048576) := by
        refine ⟨?_, by rw [← hY, ByteArray.size_extract]; omega⟩
        rw [joined_append, joined_one, ← hX, ← hY, drop_data, ext_data, List.drop_zero, List.append_assoc, List.take_append_drop]
        exact HJ.out
      have hkq' : (k : Int) ≤ (q.size : Int) := by omega
      clear hz hk HJ
      go_wp2_with fail
      refine (HR.out _).mono ?_
      rintro e w1 ⟨rfl, rfl⟩
      go_wp2_with (at_builtin; refine wpList_append_own _ rfl _ _ 22 rfl w.heap.size 9 i0 _ 1 16 Try.underlying22 Hi.out Hz0.out Hz1.out Hz2.out rfl (by decide) _ _ _ rfl (hown.alloc _) ⟨wr.heap.size, 0, none⟩ 1 1 (strCells [X]) rfl rfl ?c1 ?c2 ?c3 ?c4 ?c5 ?_)
      case c1 => exact fun j u hj => str_new wr X _ j u hj
      case c2 => exact str_cell _
      case c3 => unfold maxLen; omega
      case c4 => omega
      case c5 => simp; omega
      · intro v' w3 hown3 hgrow _
        have hb4 := grown_bel (hbr.alloc hsz _) (by simp; omega) (hown.alloc _) hgrow
        rw [← strCells_append] at hown3
        clear hown hgrow hbr k0
        go_wp2
        go_roundw
        case rel => exact ⟨i + 1, ps ++ [X], Y, by simp, by omega, by simp; omega, rfl, HXY.out.2, HXY.out.1, by simpa [hpl] using hown3, hb4⟩
        case measure => simp [intOf]; omega
    · go_wp2_with (at_builtin; refine wpList_append_own _ rfl _ _ 22 rfl w.heap.size 9 i0 _ 1 16 Try.underlying22 Hi.out Hz0.out Hz1.out Hz2.out rfl (by decide) _ _ _ rfl (hown.alloc _) ⟨wr.heap.size, 0, none⟩ 1 1 (strCells [q]) rfl rfl ?d1 ?d2 ?d3 ?d4 ?d5 ?_)
      case d1 => exact fun j u hj => by first | exact str_new wr q _ j u hj | exact hj
      case d2 => exact str_cell _
      case d3 => unfold maxLen; omega
      case d4 => omega
      case d5 => first | omega | (simp; omega)
      · intro v' w3 hown3 hgrow _
        have hb4 := grown_bel (hbr.alloc hsz _) (by simp; omega) (hown.alloc _) hgrow
        rw [← strCells_append] at hown3
        clear hown hgrow hbr
        go_wp2
        go_ret
        exact ⟨v', ps ++ [q], rfl, by simpa [hpl] using hown3, by rw [joined_append, joined_one]; exact HJ.out, by simp; omega, hb4⟩
end Go.Proofs.Ytiaggbdkkbkclaa
