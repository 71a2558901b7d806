import Derived.Test.YtiekgafopalfmaaGreatDoorPkWi3
import Derived.Deep.RegionLaw
/- The coder of package wire: a whole state. -/
namespace Go.Proofs.YtiekgafopalfmaaGreatDoor
open Go.RowKit

/-- The rows that a state came with lie below the coder. -/
def Mem (b : Nat) (aj an al : Option Addr) (s : StD) (w : World) : Prop := ∃ w0 : World, w0.heap.size = b ∧ Below b w0 w ∧ JobsAt w0 aj s.jobs ∧ NodesAt w0 an s.nodes ∧ LeasesAt w0 al s.leases
theorem mem_keep {b : Nat} {aj an al : Option Addr} {s : StD} {w w' : World} (h : Mem b aj an al s w) (hk : Keep b w w') : Mem b aj an al s w' := by
  obtain ⟨w0, hs, hb, h1⟩ := h
  have := hb.size
  exact ⟨w0, hs, hb.trans (keep_low hk (by omega)), h1⟩
theorem mem_jobs {b : Nat} {aj an al : Option Addr} {s : StD} {w : World} (h : Mem b aj an al s w) : JobsAt w aj s.jobs := by
  obtain ⟨w0, rfl, hb, h1, h2, h3⟩ := h
  exact jobsAt_next h1 hb
theorem mem_nodes {b : Nat} {aj an al : Option Addr} {s : StD} {w : World} (h : Mem b aj an al s w) : NodesAt w an s.nodes := by
  obtain ⟨w0, rfl, hb, h1, h2, h3⟩ := h
  exact nodesAt_next h2 hb
theorem mem_leases {b : Nat} {aj an al : Option Addr} {s : StD} {w : World} (h : Mem b aj an al s w) : LeasesAt w al s.leases := by
  obtain ⟨w0, rfl, hb, h1, h2, h3⟩ := h
  exact leasesAt_next h3 hb
theorem lim_rows {α : Type} {f : α → St α} {ok : α → Prop} (most : Nat) (z : α) (l : List α) (hz : ok z) (hl : ∀ x ∈ l, ok x) (hn : l.length ≤ most) (hm : most ≤ 40) (hf : ∀ x, ok x → Lim 64 (f x)) : Lim 3000 (rowsS most z f l) := by
  intro m
  have h1 := lim_lim (most := most) (n := l.length) (by omega) m
  have h2 := lim_le hn m
  have h3 := lim_go (f := f) (K := 64) (padL z l (limS most l.length m).1) (fun x hx => hf x (by
    unfold padL at hx
    obtain ⟨i, _, rfl⟩ := List.mem_map.1 hx
    by_cases hi : i < l.length
    · have e : l.getD i z = l[i] := by simp [hi]
      rw [e]; exact hl _ (List.getElem_mem _)
    · have e : l.getD i z = z := by simp [hi]
      rw [e]; exact hz)) (limS most l.length m).2
  rw [padL_length] at h3
  have e : rowsS most z f l m = goS f (padL z l (limS most l.length m).1) (limS most l.length m).2 := rfl
  rw [e]
  exact ⟨by omega, by omega, by rw [h3.2.2, h1.2.2]⟩
theorem rowSt_drew {b : Nat} {v : Int} {t : TypeId} {m : M} {vs rs : Array Value} {w0 w : World} (h : RowSt b v t m vs rs w0 w) : RowSt b v t m vs rs w0 w.drew := rowSt_call h (code_drew h.1) (keep_drew b w)
theorem rowSt_row {w0 w : World} {B e sz n : Nat} {x : Value} {xs : List Value} (ho : w.ownsRow B e sz x n xs) (hB : w0.heap.size + 2 ≤ B) (j : Nat) (u : Value) : (w.setCell ⟨w0.heap.size, j, none⟩ u).ownsRow B e sz x n xs := by
  refine ⟨ho.1, ?_⟩
  rcases ho.2 with h0 | ⟨g, cap, cur, hv, hbg, hg, r⟩
  · exact .inl h0
  · refine .inr ⟨g, cap, cur, hv, hbg, ?_, r⟩
    rw [Below.heap_setCell w ⟨w0.heap.size, j, none⟩ u g (by show g ≠ w0.heap.size; omega)]
    exact hg
theorem backs4 {w : World} {c B e sz n : Nat} {x : Value} {xs : List Value} {u0 u1 u2 u3 : Value} (ho : w.ownsRow B e sz x n xs) (hc : c < B := by omega) : ((((w.setCell ⟨c, 0, none⟩ u0).setCell ⟨c, 1, none⟩ u1).setCell ⟨c, 2, none⟩ u2).setCell ⟨c, 3, none⟩ u3).ownsRow B e sz x n xs := by
  refine ⟨ho.1, ?_⟩
  rcases ho.2 with h0 | ⟨g, cap, cur, hv, hbg, hg, r⟩
  · exact .inl h0
  · refine .inr ⟨g, cap, cur, hv, hbg, ?_, r⟩
    have ne : g ≠ c := by omega
    rw [Below.heap_setCell _ ⟨c, 3, none⟩ u3 g ne, Below.heap_setCell _ ⟨c, 2, none⟩ u2 g ne, Below.heap_setCell _ ⟨c, 1, none⟩ u1 g ne, Below.heap_setCell _ ⟨c, 0, none⟩ u0 g ne]
    exact hg
theorem ownsRow_low {w : World} {B B' e size n : Nat} {v : Value} {xs : List Value} (h : w.ownsRow B e size v n xs) (hb : B' ≤ B) : w.ownsRow B' e size v n xs := by
  refine ⟨h.1, ?_⟩
  rcases h.2 with h0 | ⟨g, cap, cur, hv, hbg, r⟩
  · exact .inl h0
  · exact .inr ⟨g, cap, cur, hv, by omega, r⟩
end Go.Proofs.YtiekgafopalfmaaGreatDoor

/- Package wire: Encode and Decode. -/
namespace Go.Proofs.YtiekgafopalfmaaGreatDoor
open Go.RowKit

/-- What Encode answers. -/
def wencR (s : StD) (v : Int) : ByteArray × Nat := if (fitsR s v).2 ≠ 0 then (⟨#[]⟩, (fitsR s v).2) else if (fitsR s v).1 = true then (⟨(stB v s).toArray⟩, 0) else (⟨#[]⟩, 4)
/-- What Decode answers. -/
def wdecR (v : Int) (l : List UInt8) : StD × Nat := if 1 ≤ v ∧ v ≤ 3 then wireD V8 v l else (zeroSt, 1)
theorem fitsR_ok {s : StD} {v : Int} (h : (fitsR s v).2 = 0) : checkE V8 s = 0 ∧ (1 ≤ v ∧ v ≤ 3) ∧ (fitsR s v).1 = fitsD s v := by
  unfold fitsR at h ⊢
  by_cases h0 : checkE V8 s ≠ 0
  · rw [if_pos h0] at h; exact absurd h h0
  · rw [if_neg h0] at h ⊢
    by_cases h1 : 1 ≤ v ∧ v ≤ 3
    · rw [if_pos h1]; exact ⟨by simpa using h0, h1, rfl⟩
    · rw [if_neg h1] at h; simp at h
/-- A coder that was made. -/
theorem code_new (w : World) (v : Int) (r : Bool) (s : ByteArray) : CodeAt w.heap.size v ⟨r, [], s, 0⟩ (w.alloc (.cells #[.int .i64 v, .bool r, .pointer none, .slice none 0 0, .string s, .int .i64 0] 269)) :=
  ⟨.pointer none, .slice none 0 0, objAt_new w _ _, World.ownsRow_nil _ _ _ _, .inl rfl⟩
theorem keep_below_of {b : Nat} {w w1 w2 : World} (h : Below w.heap.size w w1) (hb : b = w1.heap.size) (o : Obj) (hk : Keep b (w1.alloc o) w2) : Below w.heap.size w w2 := by
  have h1 := h.size
  have h2 := h.alloc h1 o
  have h3 := keep_low hk (by rw [World.size_alloc]; omega)
  exact h2.trans (h3.mono (by omega))
end Go.Proofs.YtiekgafopalfmaaGreatDoor

/- Package wire: Decode. -/
namespace Go.Proofs.YtiekgafopalfmaaGreatDoor
open Go.RowKit

theorem zag_in {n : Int} (h : zig n ≤ 4611686018427387904) : (Lit.int .i64 n).wf = true := by
  unfold zig at h
  simp [Lit.wf, IntKind.min, IntKind.max, IntKind.signed, IntKind.bits]
  split at h <;> omega
theorem int_in {n : Int} (h : 0 ≤ n ∧ n ≤ 4611686018427387904) : (Lit.int .i64 n).wf = true := by
  simp [Lit.wf, IntKind.min, IntKind.max, IntKind.signed, IntKind.bits]; omega
theorem note_max {s : ByteArray} (h : isNote V8 s = true) : s.size ≤ maxLen := by have := note_size h; unfold maxLen; omega
/-- What is read can be checked. -/
theorem wState_ok {v : Int} {s : StD} (h : okSt V8 v s) : wState s := by
  obtain ⟨h1, ⟨_, h2⟩, ⟨_, h3⟩, ⟨_, h4⟩⟩ := h
  refine ⟨?_, fun x hx => ?_, fun x hx => ?_, fun x hx => ?_⟩
  · split at h1
    · exact int_in h1
    · rw [h1]; decide
  · obtain ⟨a, b, c, d, e⟩ := h2 x hx
    refine ⟨note_max a, zag_in b, int_in c, ?_, ?_⟩
    · split at d
      · exact int_in d
      · rw [d]; decide
    · split at e
      · exact note_max e
      · rw [e]; exact Nat.zero_le _
  · obtain ⟨a, b, c⟩ := h3 x hx
    refine ⟨note_max a, int_in b, ?_⟩
    split at c
    · exact note_max c
    · rw [c]; exact Nat.zero_le _
  · obtain ⟨a, b, c⟩ := h4 x hx
    exact ⟨note_max a, note_max b, int_in c⟩
theorem ok_zeroSt (v : Int) : okSt V8 v zeroSt := by
  refine ⟨?_, ⟨by decide, fun x hx => by cases hx⟩, ⟨by decide, fun x hx => by cases hx⟩, ⟨by decide, fun x hx => by cases hx⟩⟩
  split
  · decide
  · rfl
/-- What end answers behind whole, and what was read then. -/
theorem read_cases (v : Int) (s : ByteArray) :
    (endE (wholeS v zeroSt ⟨true, [], s, 0⟩).2 ≠ 0 ∧ wireD V8 v s.data.toList = (zeroSt, endE (wholeS v zeroSt ⟨true, [], s, 0⟩).2)) ∨
    (endE (wholeS v zeroSt ⟨true, [], s, 0⟩).2 = 0 ∧ okSt V8 v (wholeS v zeroSt ⟨true, [], s, 0⟩).1 ∧
      wireD V8 v s.data.toList = if checkE V8 (wholeS v zeroSt ⟨true, [], s, 0⟩).1 ≠ 0 then (zeroSt, checkE V8 (wholeS v zeroSt ⟨true, [], s, 0⟩).1) else ((wholeS v zeroSt ⟨true, [], s, 0⟩).1, 0)) := by
  have h := (rdg_whole v ⟨true, [], s, 0⟩ rfl).1 rfl
  simp only at h
  cases hr : stR V8 v s.data.toList with
  | inl e =>
    left
    have h1 := h.1 e hr
    have e1 : endE (wholeS v zeroSt ⟨true, [], s, 0⟩).2 = e := by
      unfold endE
      rw [h1.2.2.1, h1.2.1]
      simp [ByteArray.size]
    rw [e1]
    refine ⟨h1.1, ?_⟩
    unfold wireD
    rw [hr]
  | inr x =>
    obtain ⟨t, r⟩ := x
    have h1 := h.2 t r hr
    rw [h1]
    simp only
    by_cases hz : r = []
    · right
      subst hz
      have e1 : endE ⟨true, [], ⟨([] : List UInt8).toArray⟩, 0⟩ = 0 := rfl
      refine ⟨e1, ((stC V8 v).sound _ _ _ hr).1, ?_⟩
      unfold wireD
      rw [hr]
      simp
    · left
      have e1 : endE ⟨true, [], ⟨r.toArray⟩, 0⟩ = 4 := by
        unfold endE
        have : (⟨r.toArray⟩ : ByteArray).size ≠ 0 := by
          simp [ByteArray.size]; exact hz
        rw [if_pos this]; rfl
      rw [e1]
      refine ⟨by omega, ?_⟩
      unfold wireD
      rw [hr]
      simp [hz]
end Go.Proofs.YtiekgafopalfmaaGreatDoor
