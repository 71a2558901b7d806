/- A state among the arguments: opened as plain data. -/
import Derived.Test.YtdbopgmckndmeaaDoorStPlain
import Derived.Test.YtdbopgmckndmeaaDoorAdr
import Derived.Lib.SmallJoins
import Derived.OpenShut
import Derived.ShutString
import Derived.SizedLaws
import Derived.ChangeOld
import Derived.Deep.Slices
import Derived.Deep.Fields
import Derived.ChangeSame
import Derived.Carry
namespace Go.Proofs.YtdbopgmckndmeaaDoor
open Go.ChangeShapes Go.WideShapes Go.RowKit Go.Joins Go.Deep

/-- api.Job as cells, as data; in memory. -/
def cJob (x : JobD) : List Value := [.string x.name, .int .i64 x.prio, .int .i64 x.need, .int .i64 x.tries, .string x.tag]
def dJob {H : Type} (x : JobD) : DataW H := .agg [.lit (.string x.name.data.toList), .lit (.int .i64 x.prio), .lit (.int .i64 x.need), .lit (.int .i64 x.tries), .lit (.string x.tag.data.toList)]
def wJob (x : JobD) : Prop := x.name.size ≤ maxLen ∧ (Lit.int .i64 x.prio).wf = true ∧ (Lit.int .i64 x.need).wf = true ∧ (Lit.int .i64 x.tries).wf = true ∧ x.tag.size ≤ maxLen
def JobsAt (w : World) (ad : Option Addr) (xs : List JobD) : Prop := ∀ i (h : i < xs.length), ∃ a, ad = some a ∧ a.block < w.heap.size ∧ w.cell? (a.add (i * 5)) = some (.string xs[i].name) ∧ w.cell? ⟨(a.add (i * 5)).block, (a.add (i * 5)).off + 1, none⟩ = some (.int .i64 xs[i].prio) ∧ w.cell? ⟨(a.add (i * 5)).block, (a.add (i * 5)).off + 2, none⟩ = some (.int .i64 xs[i].need) ∧ w.cell? ⟨(a.add (i * 5)).block, (a.add (i * 5)).off + 3, none⟩ = some (.int .i64 xs[i].tries) ∧ w.cell? ⟨(a.add (i * 5)).block, (a.add (i * 5)).off + 4, none⟩ = some (.string xs[i].tag)
set_option maxRecDepth 100000 in
theorem openJobs {H : Type} {enc : TypeId × Value → H} {w : World} {base : Nat} {spare : Nat → Bool} {held : Bool} {fuel : Nat} {v : Value} {y : DataW H × List MemPlace} (hf : DataW.trod enc Tryd.prog w base spare held fuel 22 [v] = some y) :
    ∃ (ad : Option Addr) (cap : Nat) (xs : List JobD), v = .slice ad xs.length cap ∧ JobsAt w ad xs ∧ ((y.1 = .nil ∧ xs = []) ∨ ∃ more, y.1 = .slice (xs.map dJob) more) ∧ ∀ x ∈ xs, wJob x := by
  rcases open_slice Tryd.underlying22 hf with ⟨hcs, hx⟩ | ⟨a, len, cap, m, n, D, Pl, hcs, _, hl, _, hm, hx, hi⟩
  · simp only [List.cons.injEq, and_true] at hcs
    subst hcs hx
    exact ⟨none, 0, [], rfl, fun i hi => by simp at hi, .inl ⟨rfl, rfl⟩, fun x hx => by cases hx⟩
  · simp only [List.cons.injEq, and_true] at hcs
    subst hcs hx
    have hlm : len ≤ m := by rw [hm]; split <;> omega
    have hC : Tryd.prog.cellsOf 64 = 5 := by kernel_rfl
    rw [hC] at hi
    have each : ∀ i, ∃ x : JobD, i < len → D i = dJob x ∧ wJob x ∧ w.cell? (a.add (i * 5)) = some (.string x.name) ∧ w.cell? ⟨(a.add (i * 5)).block, (a.add (i * 5)).off + 1, none⟩ = some (.int .i64 x.prio) ∧ w.cell? ⟨(a.add (i * 5)).block, (a.add (i * 5)).off + 2, none⟩ = some (.int .i64 x.need) ∧ w.cell? ⟨(a.add (i * 5)).block, (a.add (i * 5)).off + 3, none⟩ = some (.int .i64 x.tries) ∧ w.cell? ⟨(a.add (i * 5)).block, (a.add (i * 5)).off + 4, none⟩ = some (.string x.tag) := by
      intro i
      by_cases hil : i < len
      · obtain ⟨cs', hc, ht⟩ := hi i (by omega)
        obtain ⟨_, hcl, hat⟩ := World.cells?_some hc
        obtain ⟨ys, n', _, hy, hlen, hyl, hg⟩ := DataW.trod_struct Tryd.underlying64 ht
        simp only [Prod.mk.injEq] at hy
        match cs', hcl with
        | [c0, c1, c2, c3, c4], _ =>
          match ys, hyl with
          | [y0, y1, y2, y3, y4], _ =>
            have t0 := hg 0 _ rfl
            have t1 := hg 1 _ rfl
            have t2 := hg 2 _ rfl
            have t3 := hg 3 _ rfl
            have t4 := hg 4 _ rfl
            simp at t0 t1 t2 t3 t4
            rw [show Tryd.prog.cellsOf 9 = 1 from by kernel_rfl] at t0
            rw [show Tryd.prog.cellsOf 3 = 1 from by kernel_rfl] at t1
            rw [show Tryd.prog.cellsOf 3 = 1 from by kernel_rfl] at t2
            rw [show Tryd.prog.cellsOf 3 = 1 from by kernel_rfl] at t3
            rw [show Tryd.prog.cellsOf 9 = 1 from by kernel_rfl] at t4
            simp only [List.take_succ_cons, List.take_zero] at t0 t1 t2 t3 t4
            obtain ⟨p0, e0, rfl, u0⟩ := DataW.trod_string Tryd.underlying9 t0
            obtain ⟨p1, e1, rfl, u1⟩ := DataW.trod_int Tryd.underlying3 t1
            obtain ⟨p2, e2, rfl, u2⟩ := DataW.trod_int Tryd.underlying3 t2
            obtain ⟨p3, e3, rfl, u3⟩ := DataW.trod_int Tryd.underlying3 t3
            obtain ⟨p4, e4, rfl, u4⟩ := DataW.trod_string Tryd.underlying9 t4
            simp only [List.cons.injEq, and_true] at e0 e1 e2 e3 e4
            subst e0 e1 e2 e3 e4
            have g0 := hat 0 (by omega)
            have g1 := hat 1 (by omega)
            have g2 := hat 2 (by omega)
            have g3 := hat 3 (by omega)
            have g4 := hat 4 (by omega)
            rw [add_add] at g0 g1 g2 g3 g4
            rw [add_next a (i * 5) 0] at g1
            rw [add_next a (i * 5) 1] at g2
            rw [add_next a (i * 5) 2] at g3
            rw [add_next a (i * 5) 3] at g4
            exact ⟨⟨p0, p1, p2, p3, p4⟩, fun _ => ⟨hy.1, ⟨u0, u1, u2, u3, u4⟩, by simpa using g0, by simpa using g1, by simpa using g2, by simpa using g3, by simpa using g4⟩⟩
      · exact ⟨⟨⟨#[]⟩, 0, 0, 0, ⟨#[]⟩⟩, fun h => absurd h hil⟩
    obtain ⟨f, hf⟩ := Classical.axiomOfChoice each
    refine ⟨some a, cap, (List.range len).map f, by simp, ?_, .inr ⟨_, by simp only; congr 1; rw [List.map_map]; exact List.map_congr_left (fun i hi => (hf i (by simpa using hi)).1)⟩, ?_⟩
    · intro i hi
      have hi' : i < len := by simpa using hi
      obtain ⟨_, _, h0, h1, h2, h3, h4⟩ := hf i hi'
      exact ⟨a, rfl, by have := World.block_lt_of_cell? _ _ h0; rwa [add_block] at this, by simpa using h0, by simpa using h1, by simpa using h2, by simpa using h3, by simpa using h4⟩
    · intro x hx
      obtain ⟨i, hi, rfl⟩ := List.mem_map.1 hx
      exact (hf i (by simpa using hi)).2.1
theorem jobsAt_next {w w' : World} {ad : Option Addr} {xs : List JobD} (h : JobsAt w ad xs) (hb : Below w.heap.size w w') : JobsAt w' ad xs := by
  intro i hi
  obtain ⟨a, ha, hl, h0, h1, h2, h3, h4⟩ := h i hi
  exact ⟨a, ha, Nat.lt_of_lt_of_le hl hb.size, by rw [hb.cell (by simp only [add_block]; exact hl)]; exact h0, by rw [hb.cell (by simp only [add_block]; exact hl)]; exact h1, by rw [hb.cell (by simp only [add_block]; exact hl)]; exact h2, by rw [hb.cell (by simp only [add_block]; exact hl)]; exact h3, by rw [hb.cell (by simp only [add_block]; exact hl)]; exact h4⟩
set_option maxRecDepth 100000 in
theorem weightsJob {H : Type} (xs : List JobD) : ∀ x ∈ xs, ∀ z ∈ [x.name.size, x.tag.size], z ∈ DataW.weightsAll Tryd.prog 64 (H := H) (xs.map dJob) := by
  induction xs with
  | nil => intro x hx; cases hx
  | cons y xs ih =>
    intro x hx z hz
    rw [List.map_cons, DataW.weightsAll, List.mem_append]
    rcases List.mem_cons.1 hx with rfl | h
    · left
      simpa [dJob, DataW.weights, DataW.weightsEach, Tryd.underlying64] using hz
    · exact .inr (ih x h z hz)
set_option maxRecDepth 100000 in
theorem sizedJobs {H : Type} {d : DataW H} {xs : List JobD} (h : ∀ z ∈ d.weights Tryd.prog 22, z ≤ reachBytes) (hx : (d = .nil ∧ xs = []) ∨ ∃ more, d = .slice (xs.map dJob) more) : xs.length * 56 ≤ reachBytes ∧ ∀ x ∈ xs, x.name.size ≤ reachBytes ∧ x.tag.size ≤ reachBytes := by
  rcases hx with ⟨rfl, rfl⟩ | ⟨more, rfl⟩
  · exact ⟨by simp, fun x hx => by cases hx⟩
  · have hb : Tryd.prog.bytesOf 64 = 56 := by kernel_rfl
    simp only [DataW.weights, Tryd.underlying22, List.mem_cons, List.mem_append, hb] at h
    refine ⟨?_, fun x hx => ?_⟩
    · have := h _ (.inl rfl)
      rw [List.length_map] at this
      omega
    · have hw := weightsJob (H := H) xs x hx
      exact ⟨h _ (.inr (.inl (hw _ (by simp)))), h _ (.inr (.inl (hw _ (by simp))))⟩
/-- Rows that the call owns lie so, too. -/
def cJobs (xs : List JobD) : List Value := xs.flatMap cJob
theorem cJobs_append (a b : List JobD) : cJobs (a ++ b) = cJobs a ++ cJobs b := by simp [cJobs]
theorem cJobs_one (a : JobD) : cJobs [a] = cJob a := by simp [cJobs]
theorem cJobs_length (a : List JobD) : (cJobs a).length = a.length * 5 := by
  induction a with
  | nil => rfl
  | cons f a ih => rw [show f :: a = [f] ++ a from rfl, cJobs_append, List.length_append, ih, cJobs_one, List.length_append]; simp [cJob]; omega
theorem cJobs_ones (a : List JobD) : ∀ u : Value, u ∈ cJobs a → u.oneCell' = true := by
  intro u hu
  simp only [cJobs, List.mem_flatMap] at hu
  obtain ⟨f, _, hf⟩ := hu
  simp only [cJob, List.mem_cons, List.not_mem_nil, or_false] at hf
  rcases hf with rfl | rfl | rfl | rfl | rfl <;> rfl
theorem cJobs_at (a : List JobD) (i : Nat) (h : i < a.length) (j : Nat) (hj : j < 5) : (cJobs a)[i * 5 + j]? = (cJob a[i])[j]? := by
  induction a generalizing i with
  | nil => simp at h
  | cons f a ih =>
    rw [show cJobs (f :: a) = cJob f ++ cJobs a from by simp [cJobs]]
    cases i with
    | zero => rw [Nat.zero_mul, Nat.zero_add, List.getElem?_append_left (by simp [cJob]; omega)]; rfl
    | succ i =>
      rw [List.getElem?_append_right (by simp [cJob]; omega), show (i + 1) * 5 + j - (cJob f).length = i * 5 + j from by simp [cJob]; omega, ih i (by simpa using h)]; rfl
theorem ownJobs {w : World} {B n : Nat} {ad : Option Addr} {cap : Nat} {xs : List JobD} (h : w.ownsRow B 64 5 (.slice ad n cap) n (cJobs xs)) (hn : n = xs.length) : JobsAt w ad xs := by
  subst hn
  intro i hi
  rcases h.2 with ⟨_, h0⟩ | ⟨g, cap', cur, hv, _⟩
  · omega
  · simp only [Value.slice.injEq] at hv
    obtain ⟨rfl, _⟩ := hv
    have hc := h.cells (g := g) rfl
    have hl := (h.lt g rfl).2
    have z : ∀ j, j < 5 → w.cell? ⟨g, i * 5 + j, none⟩ = (cJob xs[i])[j]? := by
      intro j hj
      have e := cJobs_at xs i hi j hj
      have hjl : j < (cJob xs[i]).length := hj
      rw [List.getElem?_eq_getElem hjl] at e ⊢
      have := hc _ _ e
      rwa [addr_add] at this
    refine ⟨⟨g, 0, none⟩, rfl, hl, ?_, ?_, ?_, ?_, ?_⟩
    all_goals simp only [addr_add]
    · exact z 0 (by omega)
    · exact z 1 (by omega)
    · exact z 2 (by omega)
    · exact z 3 (by omega)
    · exact z 4 (by omega)
/-- api.Node as cells, as data; in memory. -/
def cNode (x : NodeD) : List Value := [.string x.name, .int .i64 x.room, .string x.zone]
def dNode {H : Type} (x : NodeD) : DataW H := .agg [.lit (.string x.name.data.toList), .lit (.int .i64 x.room), .lit (.string x.zone.data.toList)]
def wNode (x : NodeD) : Prop := x.name.size ≤ maxLen ∧ (Lit.int .i64 x.room).wf = true ∧ x.zone.size ≤ maxLen
def NodesAt (w : World) (ad : Option Addr) (xs : List NodeD) : Prop := ∀ i (h : i < xs.length), ∃ a, ad = some a ∧ a.block < w.heap.size ∧ w.cell? (a.add (i * 3)) = some (.string xs[i].name) ∧ w.cell? ⟨(a.add (i * 3)).block, (a.add (i * 3)).off + 1, none⟩ = some (.int .i64 xs[i].room) ∧ w.cell? ⟨(a.add (i * 3)).block, (a.add (i * 3)).off + 2, none⟩ = some (.string xs[i].zone)
set_option maxRecDepth 100000 in
theorem openNodes {H : Type} {enc : TypeId × Value → H} {w : World} {base : Nat} {spare : Nat → Bool} {held : Bool} {fuel : Nat} {v : Value} {y : DataW H × List MemPlace} (hf : DataW.trod enc Tryd.prog w base spare held fuel 23 [v] = some y) :
    ∃ (ad : Option Addr) (cap : Nat) (xs : List NodeD), v = .slice ad xs.length cap ∧ NodesAt w ad xs ∧ ((y.1 = .nil ∧ xs = []) ∨ ∃ more, y.1 = .slice (xs.map dNode) more) ∧ ∀ x ∈ xs, wNode x := by
  rcases open_slice Tryd.underlying23 hf with ⟨hcs, hx⟩ | ⟨a, len, cap, m, n, D, Pl, hcs, _, hl, _, hm, hx, hi⟩
  · simp only [List.cons.injEq, and_true] at hcs
    subst hcs hx
    exact ⟨none, 0, [], rfl, fun i hi => by simp at hi, .inl ⟨rfl, rfl⟩, fun x hx => by cases hx⟩
  · simp only [List.cons.injEq, and_true] at hcs
    subst hcs hx
    have hlm : len ≤ m := by rw [hm]; split <;> omega
    have hC : Tryd.prog.cellsOf 67 = 3 := by kernel_rfl
    rw [hC] at hi
    have each : ∀ i, ∃ x : NodeD, i < len → D i = dNode x ∧ wNode x ∧ w.cell? (a.add (i * 3)) = some (.string x.name) ∧ w.cell? ⟨(a.add (i * 3)).block, (a.add (i * 3)).off + 1, none⟩ = some (.int .i64 x.room) ∧ w.cell? ⟨(a.add (i * 3)).block, (a.add (i * 3)).off + 2, none⟩ = some (.string x.zone) := by
      intro i
      by_cases hil : i < len
      · obtain ⟨cs', hc, ht⟩ := hi i (by omega)
        obtain ⟨_, hcl, hat⟩ := World.cells?_some hc
        obtain ⟨ys, n', _, hy, hlen, hyl, hg⟩ := DataW.trod_struct Tryd.underlying67 ht
        simp only [Prod.mk.injEq] at hy
        match cs', hcl with
        | [c0, c1, c2], _ =>
          match ys, hyl with
          | [y0, y1, y2], _ =>
            have t0 := hg 0 _ rfl
            have t1 := hg 1 _ rfl
            have t2 := hg 2 _ rfl
            simp at t0 t1 t2
            rw [show Tryd.prog.cellsOf 9 = 1 from by kernel_rfl] at t0
            rw [show Tryd.prog.cellsOf 3 = 1 from by kernel_rfl] at t1
            rw [show Tryd.prog.cellsOf 9 = 1 from by kernel_rfl] at t2
            simp only [List.take_succ_cons, List.take_zero] at t0 t1 t2
            obtain ⟨p0, e0, rfl, u0⟩ := DataW.trod_string Tryd.underlying9 t0
            obtain ⟨p1, e1, rfl, u1⟩ := DataW.trod_int Tryd.underlying3 t1
            obtain ⟨p2, e2, rfl, u2⟩ := DataW.trod_string Tryd.underlying9 t2
            simp only [List.cons.injEq, and_true] at e0 e1 e2
            subst e0 e1 e2
            have g0 := hat 0 (by omega)
            have g1 := hat 1 (by omega)
            have g2 := hat 2 (by omega)
            rw [add_add] at g0 g1 g2
            rw [add_next a (i * 3) 0] at g1
            rw [add_next a (i * 3) 1] at g2
            exact ⟨⟨p0, p1, p2⟩, fun _ => ⟨hy.1, ⟨u0, u1, u2⟩, by simpa using g0, by simpa using g1, by simpa using g2⟩⟩
      · exact ⟨⟨⟨#[]⟩, 0, ⟨#[]⟩⟩, fun h => absurd h hil⟩
    obtain ⟨f, hf⟩ := Classical.axiomOfChoice each
    refine ⟨some a, cap, (List.range len).map f, by simp, ?_, .inr ⟨_, by simp only; congr 1; rw [List.map_map]; exact List.map_congr_left (fun i hi => (hf i (by simpa using hi)).1)⟩, ?_⟩
    · intro i hi
      have hi' : i < len := by simpa using hi
      obtain ⟨_, _, h0, h1, h2⟩ := hf i hi'
      exact ⟨a, rfl, by have := World.block_lt_of_cell? _ _ h0; rwa [add_block] at this, by simpa using h0, by simpa using h1, by simpa using h2⟩
    · intro x hx
      obtain ⟨i, hi, rfl⟩ := List.mem_map.1 hx
      exact (hf i (by simpa using hi)).2.1
theorem nodesAt_next {w w' : World} {ad : Option Addr} {xs : List NodeD} (h : NodesAt w ad xs) (hb : Below w.heap.size w w') : NodesAt w' ad xs := by
  intro i hi
  obtain ⟨a, ha, hl, h0, h1, h2⟩ := h i hi
  exact ⟨a, ha, Nat.lt_of_lt_of_le hl hb.size, by rw [hb.cell (by simp only [add_block]; exact hl)]; exact h0, by rw [hb.cell (by simp only [add_block]; exact hl)]; exact h1, by rw [hb.cell (by simp only [add_block]; exact hl)]; exact h2⟩
set_option maxRecDepth 100000 in
theorem weightsNode {H : Type} (xs : List NodeD) : ∀ x ∈ xs, ∀ z ∈ [x.name.size, x.zone.size], z ∈ DataW.weightsAll Tryd.prog 67 (H := H) (xs.map dNode) := by
  induction xs with
  | nil => intro x hx; cases hx
  | cons y xs ih =>
    intro x hx z hz
    rw [List.map_cons, DataW.weightsAll, List.mem_append]
    rcases List.mem_cons.1 hx with rfl | h
    · left
      simpa [dNode, DataW.weights, DataW.weightsEach, Tryd.underlying67] using hz
    · exact .inr (ih x h z hz)
set_option maxRecDepth 100000 in
theorem sizedNodes {H : Type} {d : DataW H} {xs : List NodeD} (h : ∀ z ∈ d.weights Tryd.prog 23, z ≤ reachBytes) (hx : (d = .nil ∧ xs = []) ∨ ∃ more, d = .slice (xs.map dNode) more) : xs.length * 40 ≤ reachBytes ∧ ∀ x ∈ xs, x.name.size ≤ reachBytes ∧ x.zone.size ≤ reachBytes := by
  rcases hx with ⟨rfl, rfl⟩ | ⟨more, rfl⟩
  · exact ⟨by simp, fun x hx => by cases hx⟩
  · have hb : Tryd.prog.bytesOf 67 = 40 := by kernel_rfl
    simp only [DataW.weights, Tryd.underlying23, List.mem_cons, List.mem_append, hb] at h
    refine ⟨?_, fun x hx => ?_⟩
    · have := h _ (.inl rfl)
      rw [List.length_map] at this
      omega
    · have hw := weightsNode (H := H) xs x hx
      exact ⟨h _ (.inr (.inl (hw _ (by simp)))), h _ (.inr (.inl (hw _ (by simp))))⟩
/-- Rows that the call owns lie so, too. -/
def cNodes (xs : List NodeD) : List Value := xs.flatMap cNode
theorem cNodes_append (a b : List NodeD) : cNodes (a ++ b) = cNodes a ++ cNodes b := by simp [cNodes]
theorem cNodes_one (a : NodeD) : cNodes [a] = cNode a := by simp [cNodes]
theorem cNodes_length (a : List NodeD) : (cNodes a).length = a.length * 3 := by
  induction a with
  | nil => rfl
  | cons f a ih => rw [show f :: a = [f] ++ a from rfl, cNodes_append, List.length_append, ih, cNodes_one, List.length_append]; simp [cNode]; omega
theorem cNodes_ones (a : List NodeD) : ∀ u : Value, u ∈ cNodes a → u.oneCell' = true := by
  intro u hu
  simp only [cNodes, List.mem_flatMap] at hu
  obtain ⟨f, _, hf⟩ := hu
  simp only [cNode, List.mem_cons, List.not_mem_nil, or_false] at hf
  rcases hf with rfl | rfl | rfl <;> rfl
theorem cNodes_at (a : List NodeD) (i : Nat) (h : i < a.length) (j : Nat) (hj : j < 3) : (cNodes a)[i * 3 + j]? = (cNode a[i])[j]? := by
  induction a generalizing i with
  | nil => simp at h
  | cons f a ih =>
    rw [show cNodes (f :: a) = cNode f ++ cNodes a from by simp [cNodes]]
    cases i with
    | zero => rw [Nat.zero_mul, Nat.zero_add, List.getElem?_append_left (by simp [cNode]; omega)]; rfl
    | succ i =>
      rw [List.getElem?_append_right (by simp [cNode]; omega), show (i + 1) * 3 + j - (cNode f).length = i * 3 + j from by simp [cNode]; omega, ih i (by simpa using h)]; rfl
theorem ownNodes {w : World} {B n : Nat} {ad : Option Addr} {cap : Nat} {xs : List NodeD} (h : w.ownsRow B 67 3 (.slice ad n cap) n (cNodes xs)) (hn : n = xs.length) : NodesAt w ad xs := by
  subst hn
  intro i hi
  rcases h.2 with ⟨_, h0⟩ | ⟨g, cap', cur, hv, _⟩
  · omega
  · simp only [Value.slice.injEq] at hv
    obtain ⟨rfl, _⟩ := hv
    have hc := h.cells (g := g) rfl
    have hl := (h.lt g rfl).2
    have z : ∀ j, j < 3 → w.cell? ⟨g, i * 3 + j, none⟩ = (cNode xs[i])[j]? := by
      intro j hj
      have e := cNodes_at xs i hi j hj
      have hjl : j < (cNode xs[i]).length := hj
      rw [List.getElem?_eq_getElem hjl] at e ⊢
      have := hc _ _ e
      rwa [addr_add] at this
    refine ⟨⟨g, 0, none⟩, rfl, hl, ?_, ?_, ?_⟩
    all_goals simp only [addr_add]
    · exact z 0 (by omega)
    · exact z 1 (by omega)
    · exact z 2 (by omega)
/-- api.Lease as cells, as data; in memory. -/
def cLease (x : LeaseD) : List Value := [.string x.job, .string x.node, .int .i64 x.til]
def dLease {H : Type} (x : LeaseD) : DataW H := .agg [.lit (.string x.job.data.toList), .lit (.string x.node.data.toList), .lit (.int .i64 x.til)]
def wLease (x : LeaseD) : Prop := x.job.size ≤ maxLen ∧ x.node.size ≤ maxLen ∧ (Lit.int .i64 x.til).wf = true
def LeasesAt (w : World) (ad : Option Addr) (xs : List LeaseD) : Prop := ∀ i (h : i < xs.length), ∃ a, ad = some a ∧ a.block < w.heap.size ∧ w.cell? (a.add (i * 3)) = some (.string xs[i].job) ∧ w.cell? ⟨(a.add (i * 3)).block, (a.add (i * 3)).off + 1, none⟩ = some (.string xs[i].node) ∧ w.cell? ⟨(a.add (i * 3)).block, (a.add (i * 3)).off + 2, none⟩ = some (.int .i64 xs[i].til)
set_option maxRecDepth 100000 in
theorem openLeases {H : Type} {enc : TypeId × Value → H} {w : World} {base : Nat} {spare : Nat → Bool} {held : Bool} {fuel : Nat} {v : Value} {y : DataW H × List MemPlace} (hf : DataW.trod enc Tryd.prog w base spare held fuel 24 [v] = some y) :
    ∃ (ad : Option Addr) (cap : Nat) (xs : List LeaseD), v = .slice ad xs.length cap ∧ LeasesAt w ad xs ∧ ((y.1 = .nil ∧ xs = []) ∨ ∃ more, y.1 = .slice (xs.map dLease) more) ∧ ∀ x ∈ xs, wLease x := by
  rcases open_slice Tryd.underlying24 hf with ⟨hcs, hx⟩ | ⟨a, len, cap, m, n, D, Pl, hcs, _, hl, _, hm, hx, hi⟩
  · simp only [List.cons.injEq, and_true] at hcs
    subst hcs hx
    exact ⟨none, 0, [], rfl, fun i hi => by simp at hi, .inl ⟨rfl, rfl⟩, fun x hx => by cases hx⟩
  · simp only [List.cons.injEq, and_true] at hcs
    subst hcs hx
    have hlm : len ≤ m := by rw [hm]; split <;> omega
    have hC : Tryd.prog.cellsOf 70 = 3 := by kernel_rfl
    rw [hC] at hi
    have each : ∀ i, ∃ x : LeaseD, i < len → D i = dLease x ∧ wLease x ∧ w.cell? (a.add (i * 3)) = some (.string x.job) ∧ w.cell? ⟨(a.add (i * 3)).block, (a.add (i * 3)).off + 1, none⟩ = some (.string x.node) ∧ w.cell? ⟨(a.add (i * 3)).block, (a.add (i * 3)).off + 2, none⟩ = some (.int .i64 x.til) := by
      intro i
      by_cases hil : i < len
      · obtain ⟨cs', hc, ht⟩ := hi i (by omega)
        obtain ⟨_, hcl, hat⟩ := World.cells?_some hc
        obtain ⟨ys, n', _, hy, hlen, hyl, hg⟩ := DataW.trod_struct Tryd.underlying70 ht
        simp only [Prod.mk.injEq] at hy
        match cs', hcl with
        | [c0, c1, c2], _ =>
          match ys, hyl with
          | [y0, y1, y2], _ =>
            have t0 := hg 0 _ rfl
            have t1 := hg 1 _ rfl
            have t2 := hg 2 _ rfl
            simp at t0 t1 t2
            rw [show Tryd.prog.cellsOf 9 = 1 from by kernel_rfl] at t0
            rw [show Tryd.prog.cellsOf 9 = 1 from by kernel_rfl] at t1
            rw [show Tryd.prog.cellsOf 3 = 1 from by kernel_rfl] at t2
            simp only [List.take_succ_cons, List.take_zero] at t0 t1 t2
            obtain ⟨p0, e0, rfl, u0⟩ := DataW.trod_string Tryd.underlying9 t0
            obtain ⟨p1, e1, rfl, u1⟩ := DataW.trod_string Tryd.underlying9 t1
            obtain ⟨p2, e2, rfl, u2⟩ := DataW.trod_int Tryd.underlying3 t2
            simp only [List.cons.injEq, and_true] at e0 e1 e2
            subst e0 e1 e2
            have g0 := hat 0 (by omega)
            have g1 := hat 1 (by omega)
            have g2 := hat 2 (by omega)
            rw [add_add] at g0 g1 g2
            rw [add_next a (i * 3) 0] at g1
            rw [add_next a (i * 3) 1] at g2
            exact ⟨⟨p0, p1, p2⟩, fun _ => ⟨hy.1, ⟨u0, u1, u2⟩, by simpa using g0, by simpa using g1, by simpa using g2⟩⟩
      · exact ⟨⟨⟨#[]⟩, ⟨#[]⟩, 0⟩, fun h => absurd h hil⟩
    obtain ⟨f, hf⟩ := Classical.axiomOfChoice each
    refine ⟨some a, cap, (List.range len).map f, by simp, ?_, .inr ⟨_, by simp only; congr 1; rw [List.map_map]; exact List.map_congr_left (fun i hi => (hf i (by simpa using hi)).1)⟩, ?_⟩
    · intro i hi
      have hi' : i < len := by simpa using hi
      obtain ⟨_, _, h0, h1, h2⟩ := hf i hi'
      exact ⟨a, rfl, by have := World.block_lt_of_cell? _ _ h0; rwa [add_block] at this, by simpa using h0, by simpa using h1, by simpa using h2⟩
    · intro x hx
      obtain ⟨i, hi, rfl⟩ := List.mem_map.1 hx
      exact (hf i (by simpa using hi)).2.1
theorem leasesAt_next {w w' : World} {ad : Option Addr} {xs : List LeaseD} (h : LeasesAt w ad xs) (hb : Below w.heap.size w w') : LeasesAt w' ad xs := by
  intro i hi
  obtain ⟨a, ha, hl, h0, h1, h2⟩ := h i hi
  exact ⟨a, ha, Nat.lt_of_lt_of_le hl hb.size, by rw [hb.cell (by simp only [add_block]; exact hl)]; exact h0, by rw [hb.cell (by simp only [add_block]; exact hl)]; exact h1, by rw [hb.cell (by simp only [add_block]; exact hl)]; exact h2⟩
set_option maxRecDepth 100000 in
theorem weightsLease {H : Type} (xs : List LeaseD) : ∀ x ∈ xs, ∀ z ∈ [x.job.size, x.node.size], z ∈ DataW.weightsAll Tryd.prog 70 (H := H) (xs.map dLease) := by
  induction xs with
  | nil => intro x hx; cases hx
  | cons y xs ih =>
    intro x hx z hz
    rw [List.map_cons, DataW.weightsAll, List.mem_append]
    rcases List.mem_cons.1 hx with rfl | h
    · left
      simpa [dLease, DataW.weights, DataW.weightsEach, Tryd.underlying70] using hz
    · exact .inr (ih x h z hz)
set_option maxRecDepth 100000 in
theorem sizedLeases {H : Type} {d : DataW H} {xs : List LeaseD} (h : ∀ z ∈ d.weights Tryd.prog 24, z ≤ reachBytes) (hx : (d = .nil ∧ xs = []) ∨ ∃ more, d = .slice (xs.map dLease) more) : xs.length * 40 ≤ reachBytes ∧ ∀ x ∈ xs, x.job.size ≤ reachBytes ∧ x.node.size ≤ reachBytes := by
  rcases hx with ⟨rfl, rfl⟩ | ⟨more, rfl⟩
  · exact ⟨by simp, fun x hx => by cases hx⟩
  · have hb : Tryd.prog.bytesOf 70 = 40 := by kernel_rfl
    simp only [DataW.weights, Tryd.underlying24, List.mem_cons, List.mem_append, hb] at h
    refine ⟨?_, fun x hx => ?_⟩
    · have := h _ (.inl rfl)
      rw [List.length_map] at this
      omega
    · have hw := weightsLease (H := H) xs x hx
      exact ⟨h _ (.inr (.inl (hw _ (by simp)))), h _ (.inr (.inl (hw _ (by simp))))⟩
/-- Rows that the call owns lie so, too. -/
def cLeases (xs : List LeaseD) : List Value := xs.flatMap cLease
theorem cLeases_append (a b : List LeaseD) : cLeases (a ++ b) = cLeases a ++ cLeases b := by simp [cLeases]
theorem cLeases_one (a : LeaseD) : cLeases [a] = cLease a := by simp [cLeases]
theorem cLeases_length (a : List LeaseD) : (cLeases a).length = a.length * 3 := by
  induction a with
  | nil => rfl
  | cons f a ih => rw [show f :: a = [f] ++ a from rfl, cLeases_append, List.length_append, ih, cLeases_one, List.length_append]; simp [cLease]; omega
theorem cLeases_ones (a : List LeaseD) : ∀ u : Value, u ∈ cLeases a → u.oneCell' = true := by
  intro u hu
  simp only [cLeases, List.mem_flatMap] at hu
  obtain ⟨f, _, hf⟩ := hu
  simp only [cLease, List.mem_cons, List.not_mem_nil, or_false] at hf
  rcases hf with rfl | rfl | rfl <;> rfl
theorem cLeases_at (a : List LeaseD) (i : Nat) (h : i < a.length) (j : Nat) (hj : j < 3) : (cLeases a)[i * 3 + j]? = (cLease a[i])[j]? := by
  induction a generalizing i with
  | nil => simp at h
  | cons f a ih =>
    rw [show cLeases (f :: a) = cLease f ++ cLeases a from by simp [cLeases]]
    cases i with
    | zero => rw [Nat.zero_mul, Nat.zero_add, List.getElem?_append_left (by simp [cLease]; omega)]; rfl
    | succ i =>
      rw [List.getElem?_append_right (by simp [cLease]; omega), show (i + 1) * 3 + j - (cLease f).length = i * 3 + j from by simp [cLease]; omega, ih i (by simpa using h)]; rfl
theorem ownLeases {w : World} {B n : Nat} {ad : Option Addr} {cap : Nat} {xs : List LeaseD} (h : w.ownsRow B 70 3 (.slice ad n cap) n (cLeases xs)) (hn : n = xs.length) : LeasesAt w ad xs := by
  subst hn
  intro i hi
  rcases h.2 with ⟨_, h0⟩ | ⟨g, cap', cur, hv, _⟩
  · omega
  · simp only [Value.slice.injEq] at hv
    obtain ⟨rfl, _⟩ := hv
    have hc := h.cells (g := g) rfl
    have hl := (h.lt g rfl).2
    have z : ∀ j, j < 3 → w.cell? ⟨g, i * 3 + j, none⟩ = (cLease xs[i])[j]? := by
      intro j hj
      have e := cLeases_at xs i hi j hj
      have hjl : j < (cLease xs[i]).length := hj
      rw [List.getElem?_eq_getElem hjl] at e ⊢
      have := hc _ _ e
      rwa [addr_add] at this
    refine ⟨⟨g, 0, none⟩, rfl, hl, ?_, ?_, ?_⟩
    all_goals simp only [addr_add]
    · exact z 0 (by omega)
    · exact z 1 (by omega)
    · exact z 2 (by omega)

/-- Where the rows of a state lie. -/
structure StM where
  aj : Option Addr
  cj : Nat
  an : Option Addr
  cn : Nat
  al : Option Addr
  cl : Nat
def stV (M : StM) (s : StD) : Value := .agg #[.int .i64 s.rev, .slice M.aj s.jobs.length M.cj, .slice M.an s.nodes.length M.cn, .slice M.al s.leases.length M.cl]
def StateAt (w : World) (M : StM) (s : StD) : Prop := JobsAt w M.aj s.jobs ∧ NodesAt w M.an s.nodes ∧ LeasesAt w M.al s.leases
set_option maxRecDepth 100000 in
theorem stateAt_next {w w' : World} {M : StM} {s : StD} (h : StateAt w M s) (hb : Below w.heap.size w w') : StateAt w' M s := ⟨jobsAt_next h.1 hb, nodesAt_next h.2.1 hb, leasesAt_next h.2.2 hb⟩
def wState (s : StD) : Prop := (Lit.int .i64 s.rev).wf = true ∧ (∀ x ∈ s.jobs, wJob x) ∧ (∀ x ∈ s.nodes, wNode x) ∧ ∀ x ∈ s.leases, wLease x
def DSt {H : Type} (d : DataW H) (s : StD) : Prop := ∃ dj dn dl, d = .agg [.lit (.int .i64 s.rev), dj, dn, dl] ∧ ((dj = .nil ∧ s.jobs = []) ∨ ∃ more, dj = .slice (s.jobs.map dJob) more) ∧ ((dn = .nil ∧ s.nodes = []) ∨ ∃ more, dn = .slice (s.nodes.map dNode) more) ∧ ((dl = .nil ∧ s.leases = []) ∨ ∃ more, dl = .slice (s.leases.map dLease) more)
set_option maxRecDepth 100000 in
theorem open_state {H : Type} {enc : TypeId × Value → H} {w : World} {base : Nat} {spare : Nat → Bool} {held : Bool} {r : Reach} {b0 : Nat} {v : Value} {d : DataW H} {ps : List MemPlace} (hv : Value.okWide Tryd.prog w r b0 26 v) (h : DataW.Trod enc Tryd.prog w base spare held 26 v d ps) :
    ∃ (M : StM) (s : StD), v = stV M s ∧ StateAt w M s ∧ DSt d s ∧ wState s := by
  obtain ⟨v0, v1, v2, v3, y0, y1, y2, y3, n, rfl, rfl, rfl, t0, t1, t2, t3⟩ := open_agg4 Tryd.underlying26 (by kernel_rfl) (by kernel_rfl) hv h
  obtain ⟨a, e0, rfl, w0⟩ := DataW.trod_int Tryd.underlying3 t0
  simp only [List.cons.injEq, and_true] at e0
  subst e0
  obtain ⟨aj, cj, xj, rfl, mj, dj, wj⟩ := openJobs t1
  obtain ⟨an, cn, xn, rfl, mn, dn, wn⟩ := openNodes t2
  obtain ⟨al, cl, xl, rfl, ml, dl, wl⟩ := openLeases t3
  exact ⟨⟨aj, cj, an, cn, al, cl⟩, ⟨a, xj, xn, xl⟩, rfl, ⟨mj, mn, ml⟩, ⟨_, _, _, rfl, dj, dn, dl⟩, w0, wj, wn, wl⟩
def SzState (s : StD) : Prop := (s.jobs.length ≤ 140737488351232 ∧ ∀ x ∈ s.jobs, x.name.size ≤ 140737488351232 ∧ x.tag.size ≤ 140737488351232) ∧ (s.nodes.length ≤ 140737488351232 ∧ ∀ x ∈ s.nodes, x.name.size ≤ 140737488351232 ∧ x.zone.size ≤ 140737488351232) ∧
  s.leases.length ≤ 140737488351232 ∧ ∀ x ∈ s.leases, x.job.size ≤ 140737488351232 ∧ x.node.size ≤ 140737488351232
set_option maxRecDepth 100000 in
theorem sized_state {H : Type} {ts : List TypeId} {ds : List (DataW H)} (h : (DataW.weightsEach Tryd.prog ts ds).all (· ≤ reachBytes) = true) {j : Nat} {d : DataW H} {s : StD} (ht : ts[j]? = some 26) (hd : ds[j]? = some d) (hx : DSt d s) : SzState s := by
  obtain ⟨dj, dn, dl, rfl, xj, xn, xl⟩ := hx
  have hall := List.all_eq_true.1 h
  have hm := DataW.weights_mem_each (P := Tryd.prog) ht hd
  simp only [DataW.weights, DataW.weightsEach, Tryd.underlying26, List.map_cons, List.map_nil, List.nil_append, List.append_nil, List.mem_append] at hm
  have hj := sizedJobs (d := dj) (xs := s.jobs) (fun z hz => by simpa using hall z (hm z (.inl hz))) xj
  have hn := sizedNodes (d := dn) (xs := s.nodes) (fun z hz => by simpa using hall z (hm z (.inr (.inl hz)))) xn
  have hl := sizedLeases (d := dl) (xs := s.leases) (fun z hz => by simpa using hall z (hm z (.inr (.inr hz)))) xl
  simp only [reachBytes] at hj hn hl
  exact ⟨⟨by omega, hj.2⟩, ⟨by omega, hn.2⟩, by omega, hl.2⟩
end Go.Proofs.YtdbopgmckndmeaaDoor
