import Derived.Test.YtiaggbdkkbkclaaFdUse
import Derived.RegionTactic
namespace Go.Proofs.Ytiaggbdkkbkclaa
open Go.RowKit

/-- The bytes of frames as a string. -/
def encsB (fs : List Fr) : ByteArray := ⟨(encs fs).toArray⟩
theorem encsB_data (fs : List Fr) : (encsB fs).data.toList = encs fs := by simp [encsB]
theorem encsB_size (fs : List Fr) : (encsB fs).size = (encs fs).length := by rw [← size_data, encsB_data]
theorem encsB_snoc (fs : List Fr) (f : Fr) : encsB fs ++ encB f.1 f.2.1 f.2.2 = encsB (fs ++ [f]) := by
  apply bytes_of
  rw [app_data, encsB_data, encsB_data, encB_F, encs_append, encs_cons, encs_nil, List.append_nil]
theorem row_cells {w : World} {B t n : Nat} {fs : List Fr} {v : Value} (h : w.ownsRow B t 3 v n (frCells fs)) {g cap : Nat} (hv : v = .slice (some ⟨g, 0, none⟩) n cap) (i : Nat) (hi : i < fs.length) :
    w.cell? ⟨g, i * 3, none⟩ = some (.int .i64 (fs[i].1 : Int)) ∧ w.cell? ⟨g, i * 3 + 1, none⟩ = some (.int .i64 (fs[i].2.1 : Int)) ∧ w.cell? ⟨g, i * 3 + 2, none⟩ = some (.string fs[i].2.2) := by
  obtain ⟨h0, h1, h2⟩ := frCells_at fs i hi
  have hc := h.cells (g := g) (by rw [hv]; rfl)
  have e0 := hc _ _ h0
  have e1 := hc _ _ h1
  have e2 := hc _ _ h2
  rw [addr_add] at e0 e1 e2
  exact ⟨e0, e1, e2⟩
theorem below3 {w v v' : World} (h : Below w.heap.size w v) (k : Below v.heap.size v v') : Below w.heap.size w v' := h.trans (k.mono h.size)
theorem row_at {w : World} {B t n cap : Nat} {ad : Option Addr} {xs : List Value} (h : w.ownsRow B t 3 (.slice ad n cap) n xs) (hn : 0 < n) : ∃ g, ad = some ⟨g, 0, none⟩ := by
  rcases h.2 with ⟨_, h0⟩ | ⟨g, cap', cur, hv, _⟩
  · omega
  · simp only [Value.slice.injEq] at hv
    exact ⟨g, hv.1⟩
set_option maxRecDepth 100000 in
set_option maxHeartbeats 1000000 in
/-- Two slices of the same frames are equal. -/
theorem eq_same {w : World} {B B' : Nat} {va vb : Value} (fs : List Fr) (ha : w.ownsRow B 33 3 va fs.length (frCells fs)) (hb : w.ownsRow B' 33 3 vb fs.length (frCells fs)) (hn : fs.length ≤ 4611686018427387904) :
    Calls Try.prog 11 #[va, vb] w fun e w' => e = .returned (.bool true) ∧ Below w.heap.size w w' := by
  obtain ⟨ad, cap, rfl⟩ := own_slice ha
  obtain ⟨ad', cap', rfl⟩ := own_slice hb
  have HA := Lib.hid ha
  have HB := Lib.hid hb
  clear ha hb
  go_enter Try.func11, Try.ntmps11
  go_wp2
  go_loopw [14] (fun iv wr => ∃ (i : Nat), iv = .int .i64 (i : Int) ∧ i ≤ fs.length ∧ Below w.heap.size w wr) (fun iv _ => fs.length - (intOf iv).toNat)
  case atStart => exact ⟨0, rfl, by omega, Below.refl _ _⟩
  case round =>
    obtain ⟨i, rfl, hi, hbr⟩ := hrel
    by_cases h : (i : Int) < (fs.length : Int)
    · have hil : i < fs.length := by omega
      obtain ⟨g, rfl⟩ := row_at HA.out (by omega)
      obtain ⟨g', rfl⟩ := row_at HB.out (by omega)
      obtain ⟨k0, k1, k2⟩ := row_cells (own_below HA.out hbr) rfl i hil
      have m := row_cells (own_below (own_below HB.out hbr) (below_new wr (.cells #[.int .i64 (fs[i].1 : Int), .int .i64 (fs[i].2.1 : Int), .string fs[i].2.2] 33))) rfl i hil
      obtain ⟨f, hf⟩ : ∃ f, fs[i] = f := ⟨_, rfl⟩
      rw [hf] at k0 k1 k2 m
      obtain ⟨v0, p0, c0⟩ := f
      simp only at k0 k1 k2 m
      obtain ⟨m0, m1, m2⟩ := m
      have hx := eq_lists c0
      clear hf
      go_wp2_with fail
      go_region
      go_wp2
      go_roundw
      case rel => exact ⟨i + 1, by simp, by omega, (hbr.alloc hbr.size _).drew⟩
      case measure => simp [intOf]; omega
    · obtain rfl : i = fs.length := by omega
      go_wp2
      go_ret
      exact ⟨rfl, hbr⟩
end Go.Proofs.Ytiaggbdkkbkclaa
