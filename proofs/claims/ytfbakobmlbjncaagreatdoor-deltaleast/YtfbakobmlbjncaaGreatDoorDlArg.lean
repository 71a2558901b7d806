/- A delta among the arguments: opened as plain data; rows of strings. -/
import Derived.Test.YtfbakobmlbjncaaGreatDoorPkSt1
import Derived.Test.YtfbakobmlbjncaaGreatDoorDlState
namespace Go.Proofs.YtfbakobmlbjncaaGreatDoor
open Go.ChangeShapes Go.WideShapes Go.RowKit Go.Joins Go.Deep

/-- A slice of strings in memory. -/
def NmsAt (w : World) (ad : Option Addr) (xs : List ByteArray) : Prop := ∀ i (h : i < xs.length), ∃ a, ad = some a ∧ a.block < w.heap.size ∧ w.cell? (a.add i) = some (.string xs[i])
theorem nmsAt_next {w w' : World} {ad : Option Addr} {xs : List ByteArray} (h : NmsAt w ad xs) (hb : Below w.heap.size w w') : NmsAt w' ad xs := by
  intro i hi
  obtain ⟨a, ha, hl, h0⟩ := h i hi
  exact ⟨a, ha, Nat.lt_of_lt_of_le hl hb.size, by rw [hb.cell (by rw [add_block]; exact hl)]; exact h0⟩
theorem nmsAt_nil (w : World) (ad : Option Addr) : NmsAt w ad [] := fun i hi => absurd hi (by simp)
def cNms (xs : List ByteArray) : List Value := xs.map Value.string
theorem cNms_append (a b : List ByteArray) : cNms (a ++ b) = cNms a ++ cNms b := List.map_append
theorem cNms_length (a : List ByteArray) : (cNms a).length = a.length := List.length_map _
theorem ownNms {w : World} {B n : Nat} {ad : Option Addr} {cap : Nat} {xs : List ByteArray} (h : w.ownsRow B 9 1 (.slice ad n cap) n (cNms xs)) (hn : n = xs.length) : NmsAt w ad xs := by
  subst hn
  intro i hi
  rcases h.2 with ⟨_, h0⟩ | ⟨g, cap', cur, hv, _⟩
  · omega
  · simp only [Value.slice.injEq] at hv
    obtain ⟨rfl, _⟩ := hv
    exact ⟨⟨g, 0, none⟩, rfl, (h.lt g rfl).2, h.cells (g := g) rfl i _ (by simp [cNms, hi])⟩
def dNm {H : Type} (x : ByteArray) : DataW H := .lit (.string x.data.toList)
set_option maxRecDepth 100000 in
theorem openNms {H : Type} {enc : TypeId × Value → H} {w : World} {base : Nat} {spare : Nat → Bool} {held : Bool} {fuel : Nat} {v : Value} {y : DataW H × List MemPlace} (hf : DataW.trod enc Tryz.prog w base spare held fuel 27 [v] = some y) :
    ∃ (ad : Option Addr) (cap : Nat) (xs : List ByteArray), v = .slice ad xs.length cap ∧ NmsAt w ad xs ∧ ((y.1 = .nil ∧ xs = []) ∨ ∃ more, y.1 = .slice (xs.map dNm) more) ∧ ∀ x ∈ xs, x.size ≤ maxLen := by
  rcases open_slice Tryz.underlying27 hf with ⟨hcs, hx⟩ | ⟨a, len, cap, m, n, D, Pl, hcs, _, hl, _, hm, hx, hi⟩
  · simp only [List.cons.injEq, and_true] at hcs
    subst hcs hx
    exact ⟨none, 0, [], rfl, fun i hi => by simp at hi, .inl ⟨rfl, rfl⟩, fun x hx => by cases hx⟩
  · simp only [List.cons.injEq, and_true] at hcs
    subst hcs hx
    have hlm : len ≤ m := by rw [hm]; split <;> omega
    have hC : Tryz.prog.cellsOf 9 = 1 := by kernel_rfl
    rw [hC] at hi
    have each : ∀ i, ∃ x : ByteArray, i < len → D i = dNm x ∧ x.size ≤ maxLen ∧ w.cell? (a.add i) = some (.string x) := by
      intro i
      by_cases hil : i < len
      · obtain ⟨cs', hc, ht⟩ := hi i (by omega)
        obtain ⟨_, hcl, hat⟩ := World.cells?_some hc
        obtain ⟨p, e, hy, u⟩ := DataW.trod_string Tryz.underlying9 ht
        simp only [Prod.mk.injEq] at hy
        have g0 := hat 0 (by omega)
        subst e
        rw [add_add] at g0
        exact ⟨p, fun _ => ⟨hy.1, u, by simpa using g0⟩⟩
      · exact ⟨⟨#[]⟩, fun h => absurd h hil⟩
    obtain ⟨f, hf⟩ := Classical.axiomOfChoice each
    refine ⟨some a, cap, (List.range len).map f, by simp, ?_, .inr ⟨_, by simp only; congr 1; rw [List.map_map]; exact List.map_congr_left (fun i hi => (hf i (by simpa using hi)).1)⟩, ?_⟩
    · intro i hi
      have hi' : i < len := by simpa using hi
      obtain ⟨_, _, h0⟩ := hf i hi'
      exact ⟨a, rfl, by have := World.block_lt_of_cell? _ _ h0; rwa [add_block] at this, by simpa using h0⟩
    · intro x hx
      obtain ⟨i, hi, rfl⟩ := List.mem_map.1 hx
      exact (hf i (by simpa using hi)).2.1
/-- Where the rows of a delta lie. -/
structure DlM where
  aj : Option Addr
  cj : Nat
  an : Option Addr
  cn : Nat
  al : Option Addr
  cl : Nat
  gj : Option Addr
  hj : Nat
  gn : Option Addr
  hn : Nat
  gl : Option Addr
  hl : Nat
def dlC (M : DlM) (d : DelD) : Array Value := #[.int .i64 d.frm, .int .i64 d.til, .slice M.aj d.jobs.length M.cj, .slice M.an d.nodes.length M.cn, .slice M.al d.leases.length M.cl, .slice M.gj d.gj.length M.hj, .slice M.gn d.gn.length M.hn, .slice M.gl d.gl.length M.hl]
def DeltaAt (w : World) (M : DlM) (d : DelD) : Prop := (JobsAt w M.aj d.jobs ∧ NodesAt w M.an d.nodes ∧ LeasesAt w M.al d.leases) ∧ NmsAt w M.gj d.gj ∧ NmsAt w M.gn d.gn ∧ NmsAt w M.gl d.gl
theorem deltaAt_next {w w' : World} {M : DlM} {d : DelD} (h : DeltaAt w M d) (hb : Below w.heap.size w w') : DeltaAt w' M d :=
  ⟨⟨jobsAt_next h.1.1 hb, nodesAt_next h.1.2.1 hb, leasesAt_next h.1.2.2 hb⟩, nmsAt_next h.2.1 hb, nmsAt_next h.2.2.1 hb, nmsAt_next h.2.2.2 hb⟩
def wDelta (d : DelD) : Prop := ((Lit.int .i64 d.frm).wf = true ∧ (Lit.int .i64 d.til).wf = true) ∧ ((∀ x ∈ d.jobs, wJob x) ∧ (∀ x ∈ d.nodes, wNode x) ∧ ∀ x ∈ d.leases, wLease x) ∧ (∀ x ∈ d.gj, x.size ≤ maxLen) ∧ (∀ x ∈ d.gn, x.size ≤ maxLen) ∧ ∀ x ∈ d.gl, x.size ≤ maxLen
set_option maxRecDepth 100000 in
theorem open_delta {H : Type} {enc : TypeId × Value → H} {w : World} {base : Nat} {spare : Nat → Bool} {held : Bool} {r : Reach} {b0 : Nat} {v : Value} {d : DataW H} {ps : List MemPlace} (hv : Value.okWide Tryz.prog w r b0 29 v) (h : DataW.Trod enc Tryz.prog w base spare held 29 v d ps) :
    ∃ (M : DlM) (s : DelD), v = .agg (dlC M s) ∧ DeltaAt w M s ∧ wDelta s := by
  obtain ⟨cs, rfl, hsz⟩ := okWide_struct Tryz.underlying29 hv
  have hC : Tryz.prog.cellsOf 29 = 8 := by kernel_rfl
  rw [hC] at hsz
  obtain ⟨fuel, hf⟩ := h
  obtain ⟨ys, n', _, hy, hlen, hyl, hg⟩ := DataW.trod_struct Tryz.underlying29 hf
  obtain ⟨l, rfl⟩ : ∃ l : List Value, cs = l.toArray := ⟨cs.toList, by simp⟩
  match l, hsz with
  | [c0, c1, c2, c3, c4, c5, c6, c7], _ =>
    match ys, hyl with
    | [y0, y1, y2, y3, y4, y5, y6, y7], _ =>
      have t0 := hg 0 _ rfl
      have t1 := hg 1 _ rfl
      have t2 := hg 2 _ rfl
      have t3 := hg 3 _ rfl
      have t4 := hg 4 _ rfl
      have t5 := hg 5 _ rfl
      have t6 := hg 6 _ rfl
      have t7 := hg 7 _ rfl
      simp [Value.cells] at t0 t1 t2 t3 t4 t5 t6 t7
      rw [show Tryz.prog.cellsOf 3 = 1 from by kernel_rfl] at t0 t1
      rw [show Tryz.prog.cellsOf 22 = 1 from by kernel_rfl] at t2
      rw [show Tryz.prog.cellsOf 23 = 1 from by kernel_rfl] at t3
      rw [show Tryz.prog.cellsOf 24 = 1 from by kernel_rfl] at t4
      rw [show Tryz.prog.cellsOf 27 = 1 from by kernel_rfl] at t5 t6 t7
      simp only [List.take_succ_cons, List.take_zero] at t0 t1 t2 t3 t4 t5 t6 t7
      obtain ⟨p0, e0, rfl, u0⟩ := DataW.trod_int Tryz.underlying3 t0
      obtain ⟨p1, e1, rfl, u1⟩ := DataW.trod_int Tryz.underlying3 t1
      simp only [List.cons.injEq, and_true] at e0 e1
      subst e0 e1
      obtain ⟨aj, cj, xj, rfl, mj, dj, wj⟩ := openJobs t2
      obtain ⟨an, cn, xn, rfl, mn, dn, wn⟩ := openNodes t3
      obtain ⟨al, cl, xl, rfl, ml, dl, wl⟩ := openLeases t4
      obtain ⟨bj, fj, zj, rfl, nj, _, vj⟩ := openNms t5
      obtain ⟨bn, fn, zn, rfl, nn, _, vn⟩ := openNms t6
      obtain ⟨bl, fl, zl, rfl, nl, _, vl⟩ := openNms t7
      exact ⟨⟨aj, cj, an, cn, al, cl, bj, fj, bn, fn, bl, fl⟩, ⟨p0, p1, xj, xn, xl, zj, zn, zl⟩, rfl, ⟨⟨mj, mn, ml⟩, nj, nn, nl⟩, ⟨u0, u1⟩, ⟨wj, wn, wl⟩, vj, vn, vl⟩
end Go.Proofs.YtfbakobmlbjncaaGreatDoor
