/- The laws' own closed fact about a sample state, and the bad state. -/
import Derived.Test.YtdbopgmckndmeaaDoorStFits2
import Derived.Laws.OwnMore
import Derived.OwnWalk
namespace Go.Proofs.YtdbopgmckndmeaaDoor
open Go.RowKit Go.Lib

theorem grown_of_below {w w' : World} (k : Below w.heap.size w w') (row : Option Nat) : w.grownBy w' row := ⟨k.os, k.tape, k.output, k.size, fun i hi _ => k.block i hi⟩
theorem grown_set (w : World) (b j : Nat) (u : Value) : w.grownBy (w.setCell ⟨b, j, none⟩ u) (some b) :=
  ⟨rfl, rfl, rfl, by simp [World.setCell], fun k _ hr => Below.heap_setCell _ _ _ _ (by simp at hr; exact hr)⟩
theorem own_next {W W' : World} {B e size n : Nat} {v : Value} {xs : List Value} (h : W.ownsRow B e size v n xs) (hb : Below W.heap.size W W') : W'.ownsRow B e size v n xs :=
  h.kept (grown_of_below hb none) (by cases v.ownBlock <;> simp)
theorem own_set {w : World} {B e size n b : Nat} {v : Value} {xs : List Value} (h : w.ownsRow B e size v n xs) (hb : b < B) (j : Nat) (u : Value) : (w.setCell ⟨b, j, none⟩ u).ownsRow B e size v n xs := by
  refine h.kept (grown_set w b j u) ?_
  cases hk : v.ownBlock with
  | none => exact .inl rfl
  | some k =>
    right
    intro he
    have h1 := (h.lt k hk).1
    simp at he
    omega
theorem info_parts' {P : Program} {e : TypeId} {z : Value} {n b : Nat} (h : (P.info? e).map (fun i => (i.zero, i.size, i.bytes)) = some (some z, n, b)) : ∃ i, P.info? e = some i ∧ i.zero = some z ∧ i.size = n ∧ i.bytes = b := by
  cases hi : P.info? e with
  | none => rw [hi] at h; simp at h
  | some i => rw [hi] at h; simp only [Option.map_some, Option.some.injEq, Prod.mk.injEq] at h; exact ⟨i, rfl, h.1, h.2.1, h.2.2⟩
def sampleJ : List JobD := [⟨⟨#[97]⟩, 0, 3, 0, ⟨#[]⟩⟩, ⟨⟨#[98]⟩, 0, 2, 0, ⟨#[120]⟩⟩]
def sampleN : List NodeD := [⟨⟨#[110]⟩, 4, ⟨#[]⟩⟩]
def sampleL : List LeaseD := [⟨⟨#[97]⟩, ⟨#[110]⟩, 9⟩]
def moreL : LeaseD := ⟨⟨#[98]⟩, ⟨#[110]⟩, 0⟩
theorem v1 (b : UInt8) (h : b.toNat < 128) : V8 ⟨#[b]⟩ = true := by
  show validD [b] = true
  rw [validD_cons b [] h]; rfl
theorem v0 : V8 ⟨#[]⟩ = true := rfl
theorem size1 (b : UInt8) : (⟨#[b]⟩ : ByteArray).size = 1 := rfl
theorem size0 : (⟨#[]⟩ : ByteArray).size = 0 := rfl
theorem lt_ab : lt ⟨#[97]⟩ ⟨#[98]⟩ := by decide
theorem sample_check : checkE V8 ⟨4, sampleJ, sampleN, sampleL⟩ = 0 := by
  simp [checkE, headSE, sampleJ, sampleN, sampleL, rowsE, jobE, nodeE, leaseE, isName, isNote, v1, v0, size1, size0, inR, orE, badO, lt_ab, hasJob, hasNode, roomE, usedD, useOf, needOf, sumZ]
theorem sample_used : usedR ⟨4, sampleJ, sampleN, sampleL⟩ ⟨#[110]⟩ = (3, 0) := by
  rw [usedR, if_neg (by rw [sample_check]; simp)]
  simp [sampleJ, sampleN, sampleL, hasNode, usedD, useOf, needOf, sumZ]
theorem sample_more : checkE V8 ⟨4, sampleJ, sampleN, sampleL ++ [moreL]⟩ = 9 := by
  simp [checkE, headSE, sampleJ, sampleN, sampleL, moreL, rowsE, jobE, nodeE, leaseE, isName, isNote, v1, v0, size1, size0, inR, orE, badO, lt_ab, hasJob, hasNode, roomE, usedD, useOf, needOf, sumZ]
set_option maxRecDepth 100000 in
set_option maxHeartbeats 1000000 in
theorem sample_is (w : World) : Calls Tryd.prog 38 #[] w fun e w' => e = .returned (.agg #[.int .i64 4, .slice (some ⟨w.heap.size + 1, 0, none⟩) sampleJ.length 2, .slice (some ⟨w.heap.size + 1 + 1, 0, none⟩) sampleN.length 1, .slice (some ⟨w.heap.size + 1 + 1 + 1, 0, none⟩) sampleL.length 1]) ∧ w'.ownsRow w.heap.size 64 5 (.slice (some ⟨w.heap.size + 1, 0, none⟩) 2 2) 2 (cJobs sampleJ) ∧ w'.ownsRow w.heap.size 67 3 (.slice (some ⟨w.heap.size + 1 + 1, 0, none⟩) 1 1) 1 (cNodes sampleN) ∧
    w'.ownsRow w.heap.size 70 3 (.slice (some ⟨w.heap.size + 1 + 1 + 1, 0, none⟩) 1 1) 1 (cLeases sampleL) ∧ Below w.heap.size w w' := by
  go_enter Tryd.func38, Tryd.ntmps38
  go_wp2
  obtain ⟨W1, hW1⟩ : ∃ W1, w.alloc (.cells #[.int .i64 4, .slice (some ⟨w.heap.size + 1, 0, none⟩) 2 2, .slice (some ⟨w.heap.size + 1 + 1, 0, none⟩) 1 1, .slice (some ⟨w.heap.size + 1 + 1 + 1, 0, none⟩) 1 1] 26) = W1 := ⟨_, rfl⟩
  have q := box_new4 w (.int .i64 4) (.slice (some ⟨w.heap.size + 1, 0, none⟩) 2 2) (.slice (some ⟨w.heap.size + 1 + 1, 0, none⟩) 1 1) (.slice (some ⟨w.heap.size + 1 + 1 + 1, 0, none⟩) 1 1) 26
  have s1 : W1.heap.size = w.heap.size + 1 := by rw [← hW1, World.size_alloc]
  have b1 : Below w.heap.size w W1 := by rw [← hW1]; exact below_one _ _
  rw [hW1] at q ⊢
  have o1 := World.ownsRow_lit (base := w.heap.size) (e := 64) (size := 5) W1 #[.string ⟨#[97]⟩, .int .i64 0, .int .i64 3, .int .i64 0, .string ⟨#[]⟩, .string ⟨#[98]⟩, .int .i64 0, .int .i64 2, .int .i64 0, .string ⟨#[120]⟩] 2 (by omega) (by unfold maxLen; omega) rfl
  obtain ⟨W2, hW2⟩ : ∃ W2, W1.alloc (.cells #[.string ⟨#[97]⟩, .int .i64 0, .int .i64 3, .int .i64 0, .string ⟨#[]⟩, .string ⟨#[98]⟩, .int .i64 0, .int .i64 2, .int .i64 0, .string ⟨#[120]⟩] 64) = W2 := ⟨_, rfl⟩
  have s2 : W2.heap.size = w.heap.size + 1 + 1 := by rw [← hW2, World.size_alloc, s1]
  have b2 : Below W1.heap.size W1 W2 := by rw [← hW2]; exact below_one _ _
  rw [hW2, s1] at o1
  rw [hW2]
  have o2 := World.ownsRow_lit (base := w.heap.size) (e := 67) (size := 3) W2 #[.string ⟨#[110]⟩, .int .i64 4, .string ⟨#[]⟩] 1 (by omega) (by unfold maxLen; omega) rfl
  obtain ⟨W3, hW3⟩ : ∃ W3, W2.alloc (.cells #[.string ⟨#[110]⟩, .int .i64 4, .string ⟨#[]⟩] 67) = W3 := ⟨_, rfl⟩
  have s3 : W3.heap.size = w.heap.size + 1 + 1 + 1 := by rw [← hW3, World.size_alloc, s2]
  have b3 : Below W2.heap.size W2 W3 := by rw [← hW3]; exact below_one _ _
  rw [hW3, s2] at o2
  rw [hW3]
  have o3 := World.ownsRow_lit (base := w.heap.size) (e := 70) (size := 3) W3 #[.string ⟨#[97]⟩, .string ⟨#[110]⟩, .int .i64 9] 1 (by omega) (by unfold maxLen; omega) rfl
  obtain ⟨W4, hW4⟩ : ∃ W4, W3.alloc (.cells #[.string ⟨#[97]⟩, .string ⟨#[110]⟩, .int .i64 9] 70) = W4 := ⟨_, rfl⟩
  have b4 : Below W3.heap.size W3 W4 := by rw [← hW4]; exact below_one _ _
  rw [hW4, s3] at o3
  rw [hW4]
  have q4 := box_next (box_next (box_next q b2) b3) b4
  have k0 := q4.1 0 _ rfl
  have k1 := q4.1 1 _ rfl
  have k2 := q4.1 2 _ rfl
  have k3 := q4.1 3 _ rfl
  have hb := below_trans (below_trans (below_trans b1 b2 (by omega)) b3 (by omega)) b4 (by omega)
  exact bodyPost_ret (v := .agg #[.int .i64 4, .slice (some ⟨w.heap.size + 1, 0, none⟩) 2 2, .slice (some ⟨w.heap.size + 1 + 1, 0, none⟩) 1 1, .slice (some ⟨w.heap.size + 1 + 1 + 1, 0, none⟩) 1 1]) (by simp [results, Tryd.results38, go_sem, k0, k1, k2, k3]) rfl
    ⟨rfl, own_next (own_next o1 b3) b4, own_next o2 b4, o3, hb⟩
end Go.Proofs.YtdbopgmckndmeaaDoor
