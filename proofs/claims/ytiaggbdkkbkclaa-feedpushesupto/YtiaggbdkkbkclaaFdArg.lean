/- A slice of frames among the arguments: opened as one list. -/
import Derived.Test.YtiaggbdkkbkclaaRows
import Derived.Lib.SmallJoins
import Derived.OpenShut
import Derived.ShutString
import Derived.SizedLaws
import Derived.ChangeOld
import Derived.Deep.Slices
import Derived.Deep.Fields
import Derived.ChangeSame
import Derived.Carry
namespace Go.Proofs.Ytiaggbdkkbkclaa
open Go.ChangeShapes Go.WideShapes Go.RowKit Go.Joins Go.Deep

/-- A frame as data. -/
def frD {H : Type} (x : Int × Int × ByteArray) : DataW H := .agg [.lit (.int .i64 x.1), .lit (.int .i64 x.2.1), .lit (.string x.2.2.data.toList)]
/-- The frames xs lie behind ad. -/
def FramesAt (w : World) (ad : Option Addr) (xs : List (Int × Int × ByteArray)) : Prop :=
  ∀ i (h : i < xs.length), ∃ a, ad = some a ∧ a.block < w.heap.size ∧ w.cell? (a.add (i * 3)) = some (.int .i64 xs[i].1) ∧ w.cell? (a.add (i * 3 + 1)) = some (.int .i64 xs[i].2.1) ∧ w.cell? (a.add (i * 3 + 2)) = some (.string xs[i].2.2)
theorem add_block (a : Addr) (k : Nat) : (a.add k).block = a.block := by unfold Addr.add; split <;> rfl
theorem add_next (a : Addr) (k j : Nat) : a.add (k + (j + 1)) = ⟨(a.add k).block, (a.add k).off + (j + 1), none⟩ := by
  unfold Addr.add
  split <;> split <;> first | omega | (simp; omega) | simp
section
variable {H : Type} {enc : TypeId × Value → H} {w : World} {base : Nat} {spare : Nat → Bool} {held : Bool}
theorem open_frames {r : Reach} {b0 : Nat} {v : Value} {d : DataW H} {ps : List MemPlace} (hv : Value.okWide Try.prog w r b0 26 v) (h : DataW.Trod enc Try.prog w base spare held 26 v d ps) :
    ∃ (ad : Option Addr) (cap : Nat) (xs : List (Int × Int × ByteArray)), v = .slice ad xs.length cap ∧ FramesAt w ad xs ∧ ((d = .nil ∧ xs = []) ∨ ∃ more, d = .slice (xs.map frD) more) := by
  obtain ⟨fuel, hf⟩ := h
  obtain ⟨a0, len0, cap0, rfl⟩ := okWide_slice Try.underlying26 hv
  rcases open_slice Try.underlying26 hf with ⟨hcs, hx⟩ | ⟨a, len, cap, m, n, D, Pl, hcs, _, hl, _, hm, hx, hi⟩
  · simp [Value.cells] at hcs hx
    obtain ⟨rfl, rfl, rfl⟩ := hcs
    exact ⟨none, 0, [], rfl, fun i hi => by simp at hi, .inl ⟨hx.1, rfl⟩⟩
  · simp [Value.cells] at hcs hx
    obtain ⟨rfl, rfl, rfl⟩ := hcs
    have hlm : len0 ≤ m := by rw [hm]; split <;> omega
    have hC : Try.prog.cellsOf 33 = 3 := by kernel_rfl
    rw [hC] at hi
    have each : ∀ i, ∃ x : Int × Int × ByteArray, i < len0 → D i = frD x ∧ w.cell? (a.add (i * 3)) = some (.int .i64 x.1) ∧ w.cell? (a.add (i * 3 + 1)) = some (.int .i64 x.2.1) ∧ w.cell? (a.add (i * 3 + 2)) = some (.string x.2.2) := by
      intro i
      by_cases hil : i < len0
      · obtain ⟨cs', hc, ht⟩ := hi i (by omega)
        obtain ⟨_, hcl, hat⟩ := World.cells?_some hc
        obtain ⟨ys, n', _, hy, hlen, hyl, hg⟩ := DataW.trod_struct Try.underlying33 ht
        simp only [Prod.mk.injEq] at hy
        match cs', hcl with
        | [c0, c1, c2], _ =>
          match ys, hyl with
          | [y0, y1, y2], _ =>
            have t0 := hg 0 _ rfl
            have t1 := hg 1 _ rfl
            have t2 := hg 2 _ rfl
            simp at t0 t1 t2
            rw [show Try.prog.cellsOf 3 = 1 from by kernel_rfl] at t0 t1
            rw [show Try.prog.cellsOf 9 = 1 from by kernel_rfl] at t2
            simp only [List.take_succ_cons, List.take_zero] at t0 t1 t2
            obtain ⟨p, e0, rfl, _⟩ := DataW.trod_int Try.underlying3 t0
            obtain ⟨q, e1, rfl, _⟩ := DataW.trod_int Try.underlying3 t1
            obtain ⟨s, e2, rfl, _⟩ := DataW.trod_string Try.underlying9 t2
            simp only [List.cons.injEq, and_true] at e0 e1 e2
            subst e0 e1 e2
            have g0 := hat 0 (by omega)
            have g1 := hat 1 (by omega)
            have g2 := hat 2 (by omega)
            rw [add_add] at g0 g1 g2
            exact ⟨(p, q, s), fun _ => ⟨hy.1, by simpa using g0, by simpa using g1, by simpa using g2⟩⟩
      · exact ⟨(0, 0, ⟨#[]⟩), fun h => absurd h hil⟩
    obtain ⟨f, hf⟩ := Classical.axiomOfChoice each
    refine ⟨some a, cap0, (List.range len0).map f, by simp, ?_, .inr ⟨_, by rw [hx.1]; congr 1; rw [List.map_map]; exact List.map_congr_left (fun i hi => (hf i (by simpa using hi)).1)⟩⟩
    intro i hi
    have hi' : i < len0 := by simpa using hi
    obtain ⟨_, h0, h1, h2⟩ := hf i hi'
    exact ⟨a, rfl, by have := World.block_lt_of_cell? _ _ h0; rwa [add_block] at this, by simpa using h0, by simpa using h1, by simpa using h2⟩
end
theorem weights_frames {H : Type} (xs : List (Int × Int × ByteArray)) : ∀ x ∈ xs, x.2.2.size ∈ DataW.weightsAll Try.prog 33 (H := H) (xs.map frD) := by
  induction xs with
  | nil => intro x hx; cases hx
  | cons y xs ih =>
    intro x hx
    rw [List.map_cons, DataW.weightsAll, List.mem_append]
    rcases List.mem_cons.1 hx with rfl | h
    · left
      simp [frD, DataW.weights, DataW.weightsEach, Try.underlying33]
    · exact .inr (ih x h)
theorem sized_frames {H : Type} {ts : List TypeId} {ds : List (DataW H)} (h : (DataW.weightsEach Try.prog ts ds).all (· ≤ reachBytes) = true) {j : Nat} {d : DataW H} {xs : List (Int × Int × ByteArray)} (ht : ts[j]? = some 26) (hd : ds[j]? = some d)
    (hx : (d = .nil ∧ xs = []) ∨ ∃ more, d = .slice (xs.map frD) more) : xs.length * 32 ≤ reachBytes ∧ ∀ x ∈ xs, x.2.2.size ≤ reachBytes := by
  rcases hx with ⟨rfl, rfl⟩ | ⟨more, rfl⟩
  · exact ⟨by simp, fun x hx => by cases hx⟩
  · have hall := List.all_eq_true.1 h
    have hb : Try.prog.bytesOf 33 = 32 := by kernel_rfl
    have hm := DataW.weights_mem_each (P := Try.prog) ht hd
    simp only [DataW.weights, Try.underlying26, List.mem_cons, List.mem_append, hb] at hm
    refine ⟨?_, fun x hx => ?_⟩
    · have := hall _ (hm _ (.inl rfl))
      simp only [List.length_map, decide_eq_true_eq] at this
      omega
    · simpa using hall _ (hm _ (.inr (.inl (weights_frames xs x hx))))
theorem framesAt_next {w w' : World} {ad : Option Addr} {xs : List (Int × Int × ByteArray)} (h : FramesAt w ad xs) (hb : Below w.heap.size w w') : FramesAt w' ad xs := by
  intro i hi
  obtain ⟨a, ha, hl, h0, h1, h2⟩ := h i hi
  have e := add_block a
  exact ⟨a, ha, Nat.lt_of_lt_of_le hl hb.size, by rw [hb.cell (by rw [e]; exact hl)]; exact h0, by rw [hb.cell (by rw [e]; exact hl)]; exact h1, by rw [hb.cell (by rw [e]; exact hl)]; exact h2⟩
end Go.Proofs.Ytiaggbdkkbkclaa
