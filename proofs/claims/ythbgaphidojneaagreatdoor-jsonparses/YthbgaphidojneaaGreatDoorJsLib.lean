/- The library's functions that package json calls, at this program: a strings.Builder, Itoa, Join, and what the reader calls. -/
import Derived.Test.YthbgaphidojneaaGreatDoorJsShelf
import Derived.Test.YthbgaphidojneaaGreatDoorRows
import Derived.Test.YthbgaphidojneaaGreatDoorJsTell
import Derived.WalkKit
import Derived.WalkSpells
import Derived.ProofKit
import Derived.Below
import Derived.Lib.Hide
import Derived.Lib.OthersKept
import Derived.Lib.FrozenHead2
import Derived.Shelf.Strings.BuilderK
namespace Go.Proofs.YthbgaphidojneaaGreatDoor
open Go.RowKit

/-! ### a strings.Builder -/
theorem exBS : Builder.Extra Tryz.prog Tryz.layBS_ren := { sizeBuilder := by kernel_rfl, liesBuilder := by kernel_rfl, t5 := Tryz.underlying5, a5 := Tryz.isAgg5, z5 := Tryz.sizeOf5, v5 := Tryz.zeroValue5, infoByte := by kernel_rfl, cellsByte := by kernel_rfl, sizeByte := by kernel_rfl, neB5 := by decide }
/-- A builder of the call's own that holds these bytes. -/
def BdAt (b : Nat) (l : List UInt8) (w : World) : Prop := Lib.IsBuilderF 131 5 b b (Lib.byteCells l) w
/-- Everything but the builder and rows of bytes behind it stands. -/
def BdKeep (b : Nat) (w w' : World) : Prop := Below b w w' ∧ Lib.OthersKept 5 (some b) w w'
theorem bdKeep_refl (b : Nat) (w : World) : BdKeep b w w := ⟨Below.refl _ _, Lib.OthersKept.refl _ _ _⟩
theorem bdKeep_trans {b : Nat} {w w1 w2 : World} (h : BdKeep b w w1) (k : BdKeep b w1 w2) : BdKeep b w w2 := ⟨h.1.trans k.1, h.2.trans k.2⟩
theorem bd_new (w : World) : BdAt w.heap.size [] (w.alloc (.cells #[.pointer none, .slice none 0 0] 131)) := Lib.IsBuilderF.of (Lib.fresh_isBuilder 131 5 w)
theorem bd_lt {b : Nat} {l : List UInt8} {w : World} (h : BdAt b l w) : b < w.heap.size := by
  rcases h with ⟨_, v, hb, _⟩ | ⟨_, v, hb, _⟩ <;> exact (Array.getElem?_eq_some_iff.1 hb).1
/-! the writing methods: the first of them is checked anew here, for this program's text of it ends otherwise at a builder that was copied -/
set_option maxRecDepth 100000 in
theorem bdCheck_new (b : Nat) (w : World) (h0 : w.cell? ⟨b, 0, none⟩ = some (.pointer none)) (hsh : w.shape? b = some (131, 2)) (hfz : w.frozen? ⟨b, 0, none⟩ = false) :
    Calls Tryz.prog 122 #[.pointer (some ⟨b, 0, none⟩)] w fun e w' => e = .returned (.tuple #[]) ∧ w' = w.setCell ⟨b, 0, none⟩ (.pointer (some ⟨b, 0, none⟩)) := by
  obtain ⟨j, hj, hjs⟩ := Option.map_eq_some_iff.1 exBS.sizeBuilder
  go_enter Tryz.func122, Tryz.ntmps122
  go_wp2
  rw [Lib.run_to_unsafe w ⟨b, 0, none⟩ Tryz.underlying129 Tryz.underlying184 hj (by rw [hjs]; decide) hsh (Nat.zero_lt_succ 1)]
  simp only [Result.andThen]
  rw [Oper.upon_value]
  go_wp2
  rw [run_callFunc_extern Tryz.func152 (by kernel_rfl) (by kernel_rfl) (by kernel_rfl) (e := Extern.AbiNoEscape.same) (by kernel_rfl)]
  rw [Lib.run_noEscape]
  simp only [Result.andThen]
  rw [Oper.upon_value]
  go_wp2
  rw [Lib.run_from_unsafe w ⟨b, 0, none⟩ Tryz.underlying184 Tryz.underlying129 hj hsh exBS.liesBuilder]
  simp only [Result.andThen]
  rw [Oper.upon_value]
  go_wp2
  go_end0
  exact ⟨rfl, rfl⟩
set_option maxRecDepth 100000 in
theorem bdCheck_old (b : Nat) (w : World) (h0 : w.cell? ⟨b, 0, none⟩ = some (.pointer (some ⟨b, 0, none⟩))) :
    Calls Tryz.prog 122 #[.pointer (some ⟨b, 0, none⟩)] w fun e w' => e = .returned (.tuple #[]) ∧ w' = w := by
  obtain ⟨j, hj, _⟩ := Option.map_eq_some_iff.1 exBS.sizeBuilder
  go_enter Tryz.func122, Tryz.ntmps122
  go_wp2
  rw [Lib.run_neq_ptr_same w _ Tryz.underlying129 hj]
  go_wp2
  go_end0
  exact ⟨rfl, rfl⟩
theorem bdCheck_is (b : Nat) (bs : List Value) (w : World) (h : Lib.IsBuilderF 131 5 b b bs w) :
    Calls Tryz.prog 122 #[.pointer (some ⟨b, 0, none⟩)] w fun e w' => e = .returned (.tuple #[]) ∧ Lib.BuilderAtF 131 5 b b (.pointer (some ⟨b, 0, none⟩)) bs w' ∧ BdKeep b w w' := by
  rcases h with h | h
  · refine (bdCheck_new b w h.cell0 h.shape h.frozen0).mono ?_
    rintro e w' ⟨rfl, rfl⟩
    exact ⟨rfl, h.used _, (Below.refl b w).setCell (p := ⟨b, 0, none⟩) (Nat.le_refl _) _, (Lib.OthersKept.refl _ _ w).setCell ⟨b, 0, none⟩ rfl _⟩
  · refine (bdCheck_old b w h.cell0).mono ?_
    rintro e w' ⟨rfl, rfl⟩
    exact ⟨rfl, h, bdKeep_refl b _⟩
set_option maxRecDepth 100000 in
set_option maxHeartbeats 2000000 in
theorem wb_is (b : Nat) (l : List UInt8) (c : UInt8) (w : World) (h : BdAt b l w) (hl : l.length + 1 ≤ 140737488355328) :
    Calls Tryz.prog 98 #[.pointer (some ⟨b, 0, none⟩), .int .u8 (c.toNat : Int)] w fun e w' => e = .returned .nilIface ∧ BdAt b (l ++ [c]) w' ∧ BdKeep b w w' := by
  obtain ⟨i0, hi, hz0, hz1, hz2⟩ := info_parts exBS.infoByte
  have hl0 := bd_lt h
  obtain ⟨bs, hbs⟩ : ∃ bs, Lib.byteCells l = bs := ⟨_, rfl⟩
  have hbl : bs.length = l.length := by rw [← hbs, Lib.byteCells_length]
  have hres : ∀ w', Lib.BuilderAtF 131 5 b b (.pointer (some ⟨b, 0, none⟩)) (bs ++ [.int .u8 (c.toNat : Int)]) w' → BdAt b (l ++ [c]) w' := by
    intro w' h'
    unfold BdAt
    rw [Lib.byteCells_append, hbs]
    exact Or.inr h'
  have HR := Lib.hid hres
  unfold BdAt at h
  rw [hbs] at h
  have HC := Lib.hid (bdCheck_is b bs w h)
  rw [← hbl] at hl
  clear hres h hbs hbl
  generalize (c.toNat : Int) = x at *
  go_enter Tryz.func98, Tryz.ntmps98
  go_wp2_with fail
  refine HC.out.mono ?_
  rintro e w1 ⟨rfl, ⟨hB, v, hbk, hown, hne⟩, hk1⟩
  have c0 : w1.cell? ⟨b, 0, none⟩ = some (.pointer (some ⟨b, 0, none⟩)) := by rw [Lib.cell_of_heap hbk]; rfl
  have c1 : w1.cell? ⟨b, 1, none⟩ = some v := by rw [Lib.cell_of_heap hbk]; rfl
  have hlt : b < w1.heap.size := (Array.getElem?_eq_some_iff.1 hbk).1
  go_wp2_with (at_builtin; refine wpList_append_ownF _ rfl _ _ 82 rfl b 5 i0 (.int .u8 0) 1 1 Tryz.underlying82 hi hz0 hz1 hz2 rfl (by decide) _ _ _ rfl (hown.alloc _) ⟨w1.heap.size, 0, none⟩ 1 1 [.int .u8 x] rfl rfl ?c1 ?c2 ?c3 ?c4 ?c5 ?_)
  case c1 =>
    intro j u hj
    match j, hj with
    | 0, hj => simp at hj; subst hj; simp [Addr.add]
  case c2 => intro u hu; simp at hu; subst hu; rfl
  case c3 => unfold maxLen; omega
  case c4 => omega
  case c5 => simp; omega
  intro v' w2 hown' hgrow _
  have hb2 : w2.heap[b]? = some (.cells #[.pointer (some ⟨b, 0, none⟩), v] 131 (0, 0)) := by
    rw [hgrow.block b (by simp; omega) (fun e => hne e.symm), Lib.alloc_old w1 _ b hlt]
    exact hbk
  have d0 : w2.cell? ⟨b, 0, none⟩ = some (.pointer (some ⟨b, 0, none⟩)) := by rw [Lib.cell_of_heap hb2]; rfl
  have d1 : w2.cell? ⟨b, 1, none⟩ = some v := by rw [Lib.cell_of_heap hb2]; rfl
  have f1 : w2.frozen? ⟨b, 1, none⟩ = false := Lib.frozen_of_heap hb2 1
  obtain ⟨g, cap, rfl⟩ : ∃ g cap, v' = .slice (some ⟨g, 0, none⟩) (bs.length + 1) cap := by
    rcases hown'.2 with ⟨_, h0⟩ | ⟨g, cap, cur, fz, hv, _⟩
    · omega
    · exact ⟨g, cap, hv⟩
  go_wp2
  go_ret
  refine ⟨rfl, HR.out _ (Lib.BuilderAtF.put (T := 131) (e := 5) hB hb2 (by simpa using hown') exBS.neB5), ?_, ((hk1.2.alloc _).grown hgrow (Lib.ownsRowF_kind (hown.alloc _))).setCell ⟨b, 1, none⟩ rfl _⟩
  exact ((hk1.1.alloc (by omega) _).grown hgrow (by simp; omega) (fun k hk => (hown.lt k hk).1)).setCell (p := ⟨b, 1, none⟩) hB _
set_option maxRecDepth 100000 in
set_option maxHeartbeats 2000000 in
theorem ws_is (b : Nat) (l : List UInt8) (s : ByteArray) (w : World) (h : BdAt b l w) (hl : l.length + s.size ≤ 140737488355328) :
    Calls Tryz.prog 95 #[.pointer (some ⟨b, 0, none⟩), .string s] w fun e w' => e = .returned (.tuple #[.int .i64 s.size, .nilIface]) ∧ BdAt b (l ++ s.data.toList) w' ∧ BdKeep b w w' := by
  obtain ⟨i0, hi, hz0, hz1, hz2⟩ := info_parts exBS.infoByte
  have hl0 := bd_lt h
  obtain ⟨bs, hbs⟩ : ∃ bs, Lib.byteCells l = bs := ⟨_, rfl⟩
  have hbl : bs.length = l.length := by rw [← hbs, Lib.byteCells_length]
  have hres : ∀ w', Lib.BuilderAtF 131 5 b b (.pointer (some ⟨b, 0, none⟩)) (bs ++ Lib.strCells s) w' → BdAt b (l ++ s.data.toList) w' := by
    intro w' h'
    unfold BdAt
    rw [Lib.byteCells_append, hbs]
    exact Or.inr h'
  have HR := Lib.hid hres
  unfold BdAt at h
  rw [hbs] at h
  have HC := Lib.hid (bdCheck_is b bs w h)
  rw [← hbl] at hl
  clear hres h hbs hbl
  go_enter Tryz.func95, Tryz.ntmps95
  go_wp2_with fail
  refine HC.out.mono ?_
  rintro e w1 ⟨rfl, ⟨hB, v, hbk, hown, hne⟩, hk1⟩
  have c0 : w1.cell? ⟨b, 0, none⟩ = some (.pointer (some ⟨b, 0, none⟩)) := by rw [Lib.cell_of_heap hbk]; rfl
  have c1 : w1.cell? ⟨b, 1, none⟩ = some v := by rw [Lib.cell_of_heap hbk]; rfl
  have hlt : b < w1.heap.size := (Array.getElem?_eq_some_iff.1 hbk).1
  go_wp2_with (at_builtin; refine Lib.wpList_append_own_stringF _ rfl _ _ 82 9 rfl b 5 i0 Tryz.underlying82 Tryz.underlying9 hi hz0 hz1 hz2 _ _ _ rfl hown s rfl ?c3 ?c4 ?c5 ?_)
  case c3 => unfold maxLen; omega
  case c4 => omega
  case c5 => omega
  intro v' w2 hown' hgrow _
  have hb2 : w2.heap[b]? = some (.cells #[.pointer (some ⟨b, 0, none⟩), v] 131 (0, 0)) := by
    rw [hgrow.block b hlt (fun e => hne e.symm)]
    exact hbk
  have d0 : w2.cell? ⟨b, 0, none⟩ = some (.pointer (some ⟨b, 0, none⟩)) := by rw [Lib.cell_of_heap hb2]; rfl
  have d1 : w2.cell? ⟨b, 1, none⟩ = some v := by rw [Lib.cell_of_heap hb2]; rfl
  have f1 : w2.frozen? ⟨b, 1, none⟩ = false := Lib.frozen_of_heap hb2 1
  obtain ⟨ao, n', cap, rfl⟩ : ∃ ao n' cap, v' = .slice ao n' cap := by
    rcases hown'.2 with ⟨hv, _⟩ | ⟨g, cap, cur, fz, hv, _⟩
    · exact ⟨_, _, _, hv⟩
    · exact ⟨_, _, _, hv⟩
  go_wp2
  go_ret2
  refine ⟨rfl, HR.out _ (Lib.BuilderAtF.put (T := 131) (e := 5) hB hb2 (by simpa [Lib.strCells_length] using hown') exBS.neB5), ?_, (hk1.2.grown hgrow (Lib.ownsRowF_kind hown)).setCell ⟨b, 1, none⟩ rfl _⟩
  exact (hk1.1.grown hgrow (by omega) (fun k hk => (hown.lt k hk).1)).setCell (p := ⟨b, 1, none⟩) hB _
theorem bs_is (b : Nat) (l : List UInt8) (w : World) (h : BdAt b l w) :
    Calls Tryz.prog 96 #[.pointer (some ⟨b, 0, none⟩)] w fun e w' => e = .returned (.string (baL l)) ∧ BdKeep b w w' := by
  refine (Any.Builder_String_any_k Tryz.layBS exBS b b l w h (Nat.le_of_lt (bd_lt h))).mono ?_
  rintro e w' ⟨rfl, _, h2, h3⟩
  exact ⟨rfl, h2, h3⟩
/-! ### numbers told -/
theorem below_grow (w : World) (q : Nat) (os : Array Obj) : Below w.heap.size w (Sort.grow (w.drewN q) os) := by
  have h : Below w.heap.size w (w.drewN q) := by
    induction q with
    | zero => exact Below.refl _ _
    | succ n ih => exact ih.drew
  refine ⟨h.os, h.tape, h.output, ?_, fun k hk => ?_⟩
  · have := h.size
    simp only [Sort.grow, Array.size_append]
    omega
  · have hs := h.size
    simp only [Sort.grow]
    rw [Array.getElem?_append_left (by omega)]
    exact h.block k hk
/-- The table of powers lies as the library's text lays it: Itoa tells a number, now and behind whatever leaves the table alone. -/
def Pow10 (w : World) : Prop := ∀ w', Below w.heap.size w w' → ∀ n : Int, -9223372036854775808 ≤ n → n ≤ 9223372036854775807 →
  Calls Tryz.prog 29 #[.int .i64 n] w' fun e w2 => e = .returned (.string (baL (digZ n))) ∧ Below w'.heap.size w' w2
theorem Pow10.below {w w' : World} (h : Pow10 w) (hb : Below w.heap.size w w') : Pow10 w' := fun w2 h2 n a b => h w2 (hb.trans (h2.mono hb.size)) n a b
theorem itoa_is {w : World} (h : Pow10 w) (n : Int) (a : -9223372036854775808 ≤ n) (b : n ≤ 9223372036854775807) :
    Calls Tryz.prog 29 #[.int .i64 n] w fun e w2 => e = .returned (.string (baL (digZ n))) ∧ Below w.heap.size w w2 := h w (Below.refl _ _) n a b
end Go.Proofs.YthbgaphidojneaaGreatDoor
