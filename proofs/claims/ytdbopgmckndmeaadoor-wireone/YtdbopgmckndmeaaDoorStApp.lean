/- Appends onto a row that the call itself owns, from any slice, a nil one too; rows in memory as cells. -/
import Derived.Test.YtdbopgmckndmeaaDoorStSample
import Derived.Maps.AppendAt
import Derived.Deep.AppendLies
namespace Go.Proofs.YtdbopgmckndmeaaDoor
open Go.RowKit

theorem run_app_nil {w : World} (base : Nat) (t ty e : TypeId) (i : TypeInfo) (size : Nat) (ht : Tryd.prog.underlying t = some (.slice e)) (hi : Tryd.prog.info? e = some i) (v : Value) (n : Nat) (xs : List Value) (hown : w.ownsRow base e size v n xs) (c : Nat) :
    (Builtin.append_ #[t, t] ty #[v, .slice none 0 c]).run Tryd.prog w = .ok v w := by
  rcases hown.2 with ⟨rfl, rfl⟩ | ⟨g, cap, cur, rfl, _, _, hnc, _⟩
  · simp [Builtin.append_, run_underlying ht, sizeOf, typeInfo, hi, Builtin.lenOf, Builtin.firstCells]
  · simp [Builtin.append_, run_underlying ht, sizeOf, typeInfo, hi, Builtin.lenOf, Builtin.firstCells, hnc, storeCells]
theorem run_app {w : World} (base : Nat) (t ty e : TypeId) (i : TypeInfo) (z : Value) (size bytes : Nat) (ht : Tryd.prog.underlying t = some (.slice e)) (hi : Tryd.prog.info? e = some i) (hz : i.zero = some z)
    (hsize : i.size = size) (hby : i.bytes = bytes) (hzs : z.cells.size = size) (hsz : 0 < size)
    (v : Value) (n : Nat) (xs : List Value) (hown : w.ownsRow base e size v n xs)
    (ad : Option Addr) (m c : Nat) (news : List Value) (hl : news.length = m * size) (hnews : ∀ j u, news[j]? = some u → ∃ a, ad = some a ∧ w.cell? (a.add j) = some u) (h1 : ∀ u ∈ news, u.oneCell' = true)
    (h63 : n + m ≤ maxLen) (hbytes : (n + m) * bytes ≤ 140737488355328) (hbase : base ≤ w.heap.size) :
    ∃ v' w', (Builtin.append_ #[t, t] ty #[v, .slice ad m c]).run Tryd.prog w = .ok v' w' ∧ w'.ownsRow base e size v' (n + m) (xs ++ news) ∧ w.grownBy w' v.ownBlock ∧ (v'.ownBlock = v.ownBlock ∨ v'.ownBlock = some w.heap.size) := by
  cases ad with
  | none =>
    have hn : news = [] := by
      cases news with
      | nil => rfl
      | cons u l => obtain ⟨a, ha, _⟩ := hnews 0 u rfl; cases ha
    subst hn
    have hm : m = 0 := by
      simp only [List.length_nil] at hl
      rcases Nat.mul_eq_zero.1 hl.symm with h | h
      · exact h
      · omega
    subst hm
    exact ⟨v, w, run_app_nil base t ty e i size ht hi v n xs hown c, by simpa using hown, ⟨rfl, rfl, rfl, Nat.le_refl _, fun _ _ _ => rfl⟩, .inl rfl⟩
  | some a =>
    obtain ⟨v', w', hr, h2, h3, _, h5⟩ := run_append_own_at (P := Tryd.prog) w base t ty e i z size bytes ht hi hz hsize hby hzs hsz v n xs hown a m c news hl (fun j u hj => by obtain ⟨a', ha, hc⟩ := hnews j u hj; cases ha; exact hc) h1 h63 hbytes hbase
    exact ⟨v', w', hr, h2, h3, h5⟩
theorem wp_app {w : World} {o : Oper} {a : Act} {K : Act → World → Prop} {Q : Exit → Act → World → Prop} (s x : Operand) (t : TypeId)
    (ho : o.op = .call { callee := .builtin .append, args := #[s, x], argTypes := #[t, t] })
    (base : Nat) (e : TypeId) (i : TypeInfo) (z : Value) (size bytes : Nat) (ht : Tryd.prog.underlying t = some (.slice e)) (hi : Tryd.prog.info? e = some i) (hz : i.zero = some z)
    (hsize : i.size = size) (hby : i.bytes = bytes) (hzs : z.cells.size = size) (hsz : 0 < size)
    (v : Value) (n : Nat) (xs : List Value) (hs : a.eval s = v) (hown : w.ownsRow base e size v n xs)
    (ad : Option Addr) (m c : Nat) (news : List Value) (hx : a.eval x = .slice ad m c) (hl : news.length = m * size) (hnews : ∀ j u, news[j]? = some u → ∃ a, ad = some a ∧ w.cell? (a.add j) = some u) (h1 : ∀ u ∈ news, u.oneCell' = true)
    (h63 : n + m ≤ maxLen) (hbytes : (n + m) * bytes ≤ 140737488355328) (hbase : base ≤ w.heap.size)
    (h : ∀ v' w', w'.ownsRow base e size v' (n + m) (xs ++ news) → w.grownBy w' v.ownBlock → (v'.ownBlock = v.ownBlock ∨ v'.ownBlock = some w.heap.size) → K (a.put o.dst v') w') : Oper.wp Tryd.prog o a w K Q := by
  obtain ⟨v', w', hr, h2, h3, h5⟩ := run_app (w := w) base t o.type e i z size bytes ht hi hz hsize hby hzs hsz v n xs hown ad m c news hl hnews h1 h63 hbytes hbase
  unfold Oper.wp
  simp only [execOp, ho, resolve, invoke, builtin, Sem.run_bind, Sem.run_pure, Result.andThen_ok, List.map_toArray, List.map_cons, List.map_nil, hs, hx, hr]
  exact h v' w' h2 h3 h5
theorem wpList_app {w : World} {ops : Array Oper} {rest : List Oper} {o : Oper} {a : Act} {Q : Exit → Act → World → Prop} (hgd : o.guard = none) (s x : Operand) (t : TypeId)
    (ho : o.op = .call { callee := .builtin .append, args := #[s, x], argTypes := #[t, t] })
    (base : Nat) (e : TypeId) (i : TypeInfo) (z : Value) (size bytes : Nat) (ht : Tryd.prog.underlying t = some (.slice e)) (hi : Tryd.prog.info? e = some i) (hz : i.zero = some z)
    (hsize : i.size = size) (hby : i.bytes = bytes) (hzs : z.cells.size = size) (hsz : 0 < size)
    (v : Value) (n : Nat) (xs : List Value) (hs : a.eval s = v) (hown : w.ownsRow base e size v n xs)
    (ad : Option Addr) (m c : Nat) (news : List Value) (hx : a.eval x = .slice ad m c) (hl : news.length = m * size) (hnews : ∀ j u, news[j]? = some u → ∃ a, ad = some a ∧ w.cell? (a.add j) = some u) (h1 : ∀ u ∈ news, u.oneCell' = true)
    (h63 : n + m ≤ maxLen) (hbytes : (n + m) * bytes ≤ 140737488355328) (hbase : base ≤ w.heap.size)
    (h : ∀ v' w', w'.ownsRow base e size v' (n + m) (xs ++ news) → w.grownBy w' v.ownBlock → (v'.ownBlock = v.ownBlock ∨ v'.ownBlock = some w.heap.size) → wpList Tryd.prog ops Q rest (a.put o.dst v') w') : wpList Tryd.prog ops Q (o :: rest) a w :=
  wpList_plain hgd fun _ hK => wp_app s x t ho base e i z size bytes ht hi hz hsize hby hzs hsz v n xs hs hown ad m c news hx hl hnews h1 h63 hbytes hbase fun v' w' h2 h3 h4 => hK _ _ (h v' w' h2 h3 h4)
theorem step_app {w : World} {ops : Array Oper} {o : Oper} {a : Act} {K : Act → World → Prop} {Q : Exit → Act → World → Prop} {E : Prop} (hgd : o.guard = none) (s x : Operand) (t : TypeId)
    (ho : o.op = .call { callee := .builtin .append, args := #[s, x], argTypes := #[t, t] })
    (base : Nat) (e : TypeId) (i : TypeInfo) (z : Value) (size bytes : Nat) (ht : Tryd.prog.underlying t = some (.slice e)) (hi : Tryd.prog.info? e = some i) (hz : i.zero = some z)
    (hsize : i.size = size) (hby : i.bytes = bytes) (hzs : z.cells.size = size) (hsz : 0 < size)
    (v : Value) (n : Nat) (xs : List Value) (hs : a.eval s = v) (hown : w.ownsRow base e size v n xs)
    (ad : Option Addr) (m c : Nat) (news : List Value) (hx : a.eval x = .slice ad m c) (hl : news.length = m * size) (hnews : ∀ j u, news[j]? = some u → ∃ a, ad = some a ∧ w.cell? (a.add j) = some u) (h1 : ∀ u ∈ news, u.oneCell' = true)
    (h63 : n + m ≤ maxLen) (hbytes : (n + m) * bytes ≤ 140737488355328) (hbase : base ≤ w.heap.size)
    (h : ∀ v' w', w'.ownsRow base e size v' (n + m) (xs ++ news) → w.grownBy w' v.ownBlock → (v'.ownBlock = v.ownBlock ∨ v'.ownBlock = some w.heap.size) → K (a.put o.dst v') w') :
    if Region.wanted o (yielded ops a.tmps) = true then Oper.wp Tryd.prog o a w K Q else E := by
  have hw : Region.wanted o (yielded ops a.tmps) = true := by simp [Region.wanted, hgd]
  rw [if_pos hw]
  exact wp_app s x t ho base e i z size bytes ht hi hz hsize hby hzs hsz v n xs hs hown ad m c news hx hl hnews h1 h63 hbytes hbase h
theorem add_add' (a : Addr) (i j : Nat) : (a.add i).add j = a.add (i + j) := by
  unfold Addr.add
  split <;> split <;> split <;> first | rfl | omega | (simp; omega) | simp
/-- Rows in memory, cell by cell; a part of them. -/
theorem jobsAt_cells {w : World} {a : Addr} {xs : List JobD} (h : JobsAt w (some a) xs) : ∀ j u, (cJobs xs)[j]? = some u → w.cell? (a.add j) = some u := by
  intro j u hj
  have hjl : j < xs.length * 5 := by
    rw [← cJobs_length]
    exact (List.getElem?_eq_some_iff.1 hj).1
  have hr : j % 5 < 5 := Nat.mod_lt _ (by omega)
  have hi : j / 5 < xs.length := by omega
  have e : j / 5 * 5 + j % 5 = j := by omega
  have hc := cJobs_at xs (j / 5) hi (j % 5) hr
  rw [e, hj] at hc
  obtain ⟨a', ha', _, k0, k1, k2, k3, k4⟩ := h (j / 5) hi
  cases ha'
  rw [← e]
  generalize j / 5 = i at *
  generalize j % 5 = r at *
  match r, hr with
  | 0, _ => rw [Nat.add_zero] ; simp [cJob] at hc; subst hc; exact k0
  | 1, _ => rw [add_next a (i * 5) 0]; simp [cJob] at hc; subst hc; exact k1
  | 2, _ => rw [add_next a (i * 5) 1]; simp [cJob] at hc; subst hc; exact k2
  | 3, _ => rw [add_next a (i * 5) 2]; simp [cJob] at hc; subst hc; exact k3
  | 4, _ => rw [add_next a (i * 5) 3]; simp [cJob] at hc; subst hc; exact k4
theorem jobsAt_drop {w : World} {a : Addr} {xs : List JobD} (h : JobsAt w (some a) xs) (l : Nat) : JobsAt w (some (a.add (l * 5))) (xs.drop l) := by
  intro i hi
  rw [List.length_drop] at hi
  obtain ⟨a', ha', hl, k0, k1, k2, k3, k4⟩ := h (l + i) (by omega)
  cases ha'
  refine ⟨_, rfl, by rw [add_block]; exact hl, ?_⟩
  have e : (a.add (l * 5)).add (i * 5) = a.add ((l + i) * 5) := by rw [add_add']; congr 1; omega
  simp only [List.getElem_drop, e]
  exact ⟨k0, k1, k2, k3, k4⟩
theorem jobsAt_take {w : World} {ad : Option Addr} {xs : List JobD} (h : JobsAt w ad xs) (n : Nat) : JobsAt w ad (xs.take n) := by
  intro i hi
  rw [List.length_take] at hi
  obtain ⟨a', ha', hl, hk⟩ := h i (by omega)
  refine ⟨a', ha', hl, ?_⟩
  simp only [List.getElem_take]
  exact hk
theorem src_job {w : World} {ad : Option Addr} {xs : List JobD} (h : JobsAt w ad xs) : ∀ j u, (cJobs xs)[j]? = some u → ∃ a, ad = some a ∧ w.cell? (a.add j) = some u := by
  intro j u hj
  cases xs with
  | nil => simp [cJobs] at hj
  | cons x l =>
    obtain ⟨a, ha, _⟩ := h 0 (by simp)
    subst ha
    exact ⟨a, rfl, jobsAt_cells h j u hj⟩
/-- The part from lo up to hi, as slicing leaves its address. -/
theorem part_job {w : World} {ad : Option Addr} {xs : List JobD} (h : JobsAt w ad xs) (lo hi cap : Nat) (h2 : hi ≤ xs.length) (h3 : xs.length ≤ cap) :
    ∀ j u, (cJobs ((xs.take hi).drop lo))[j]? = some u → ∃ a, (if cap = lo then ad else ad.map (·.add (lo * 5))) = some a ∧ w.cell? (a.add j) = some u := by
  intro j u hj
  by_cases hlt : lo < hi
  · obtain ⟨a, ha, _⟩ := h lo (by omega)
    subst ha
    rw [if_neg (by omega)]
    exact ⟨_, rfl, jobsAt_cells (jobsAt_drop (jobsAt_take h hi) lo) j u hj⟩
  · rw [List.drop_of_length_le (by rw [List.length_take]; omega)] at hj
    simp [cJobs] at hj
theorem Tryd.info_job : (Tryd.prog.info? 64).map (fun i => (i.zero, i.size, i.bytes)) = some (some (.agg #[.string ⟨#[]⟩, .int .i64 0, .int .i64 0, .int .i64 0, .string ⟨#[]⟩]), 5, 56) := by kernel_rfl
theorem own_jobs {w : World} {B : Nat} {v : Value} {xs : List JobD} (h : w.ownsRow B 64 5 v xs.length (cJobs xs)) : ∃ ad cap, v = .slice ad xs.length cap ∧ JobsAt w ad xs := by
  rcases h.2 with ⟨rfl, hn⟩ | ⟨g, cap, cur, rfl, _⟩
  · have : xs = [] := List.eq_nil_of_length_eq_zero hn
    subst this
    exact ⟨none, 0, rfl, fun i hi => by simp at hi⟩
  · exact ⟨_, _, rfl, ownJobs h rfl⟩
theorem job_new (w : World) (x : JobD) (t : TypeId) : ∀ j u, (cJob x)[j]? = some u → (w.alloc (.cells #[.string x.name, .int .i64 x.prio, .int .i64 x.need, .int .i64 x.tries, .string x.tag] t)).cell? ((⟨w.heap.size, 0, none⟩ : Addr).add j) = some u := by
  intro j u hj
  rw [addr_add]
  exact (box_new5 w (.string x.name) (.int .i64 x.prio) (.int .i64 x.need) (.int .i64 x.tries) (.string x.tag) t).1 j u hj
theorem job_ones (x : JobD) : ∀ u : Value, u ∈ cJob x → u.oneCell' = true := fun u hu => cJobs_ones [x] u (by rw [cJobs_one]; exact hu)
/-- Rows in memory, cell by cell; a part of them. -/
theorem nodesAt_cells {w : World} {a : Addr} {xs : List NodeD} (h : NodesAt w (some a) xs) : ∀ j u, (cNodes xs)[j]? = some u → w.cell? (a.add j) = some u := by
  intro j u hj
  have hjl : j < xs.length * 3 := by
    rw [← cNodes_length]
    exact (List.getElem?_eq_some_iff.1 hj).1
  have hr : j % 3 < 3 := Nat.mod_lt _ (by omega)
  have hi : j / 3 < xs.length := by omega
  have e : j / 3 * 3 + j % 3 = j := by omega
  have hc := cNodes_at xs (j / 3) hi (j % 3) hr
  rw [e, hj] at hc
  obtain ⟨a', ha', _, k0, k1, k2⟩ := h (j / 3) hi
  cases ha'
  rw [← e]
  generalize j / 3 = i at *
  generalize j % 3 = r at *
  match r, hr with
  | 0, _ => rw [Nat.add_zero] ; simp [cNode] at hc; subst hc; exact k0
  | 1, _ => rw [add_next a (i * 3) 0]; simp [cNode] at hc; subst hc; exact k1
  | 2, _ => rw [add_next a (i * 3) 1]; simp [cNode] at hc; subst hc; exact k2
theorem nodesAt_drop {w : World} {a : Addr} {xs : List NodeD} (h : NodesAt w (some a) xs) (l : Nat) : NodesAt w (some (a.add (l * 3))) (xs.drop l) := by
  intro i hi
  rw [List.length_drop] at hi
  obtain ⟨a', ha', hl, k0, k1, k2⟩ := h (l + i) (by omega)
  cases ha'
  refine ⟨_, rfl, by rw [add_block]; exact hl, ?_⟩
  have e : (a.add (l * 3)).add (i * 3) = a.add ((l + i) * 3) := by rw [add_add']; congr 1; omega
  simp only [List.getElem_drop, e]
  exact ⟨k0, k1, k2⟩
theorem nodesAt_take {w : World} {ad : Option Addr} {xs : List NodeD} (h : NodesAt w ad xs) (n : Nat) : NodesAt w ad (xs.take n) := by
  intro i hi
  rw [List.length_take] at hi
  obtain ⟨a', ha', hl, hk⟩ := h i (by omega)
  refine ⟨a', ha', hl, ?_⟩
  simp only [List.getElem_take]
  exact hk
theorem src_node {w : World} {ad : Option Addr} {xs : List NodeD} (h : NodesAt w ad xs) : ∀ j u, (cNodes xs)[j]? = some u → ∃ a, ad = some a ∧ w.cell? (a.add j) = some u := by
  intro j u hj
  cases xs with
  | nil => simp [cNodes] at hj
  | cons x l =>
    obtain ⟨a, ha, _⟩ := h 0 (by simp)
    subst ha
    exact ⟨a, rfl, nodesAt_cells h j u hj⟩
/-- The part from lo up to hi, as slicing leaves its address. -/
theorem part_node {w : World} {ad : Option Addr} {xs : List NodeD} (h : NodesAt w ad xs) (lo hi cap : Nat) (h2 : hi ≤ xs.length) (h3 : xs.length ≤ cap) :
    ∀ j u, (cNodes ((xs.take hi).drop lo))[j]? = some u → ∃ a, (if cap = lo then ad else ad.map (·.add (lo * 3))) = some a ∧ w.cell? (a.add j) = some u := by
  intro j u hj
  by_cases hlt : lo < hi
  · obtain ⟨a, ha, _⟩ := h lo (by omega)
    subst ha
    rw [if_neg (by omega)]
    exact ⟨_, rfl, nodesAt_cells (nodesAt_drop (nodesAt_take h hi) lo) j u hj⟩
  · rw [List.drop_of_length_le (by rw [List.length_take]; omega)] at hj
    simp [cNodes] at hj
theorem Tryd.info_node : (Tryd.prog.info? 67).map (fun i => (i.zero, i.size, i.bytes)) = some (some (.agg #[.string ⟨#[]⟩, .int .i64 0, .string ⟨#[]⟩]), 3, 40) := by kernel_rfl
theorem own_nodes {w : World} {B : Nat} {v : Value} {xs : List NodeD} (h : w.ownsRow B 67 3 v xs.length (cNodes xs)) : ∃ ad cap, v = .slice ad xs.length cap ∧ NodesAt w ad xs := by
  rcases h.2 with ⟨rfl, hn⟩ | ⟨g, cap, cur, rfl, _⟩
  · have : xs = [] := List.eq_nil_of_length_eq_zero hn
    subst this
    exact ⟨none, 0, rfl, fun i hi => by simp at hi⟩
  · exact ⟨_, _, rfl, ownNodes h rfl⟩
theorem node_new (w : World) (x : NodeD) (t : TypeId) : ∀ j u, (cNode x)[j]? = some u → (w.alloc (.cells #[.string x.name, .int .i64 x.room, .string x.zone] t)).cell? ((⟨w.heap.size, 0, none⟩ : Addr).add j) = some u := by
  intro j u hj
  rw [addr_add]
  exact (box_new3 w (.string x.name) (.int .i64 x.room) (.string x.zone) t).1 j u hj
theorem node_ones (x : NodeD) : ∀ u : Value, u ∈ cNode x → u.oneCell' = true := fun u hu => cNodes_ones [x] u (by rw [cNodes_one]; exact hu)
/-- Rows in memory, cell by cell; a part of them. -/
theorem leasesAt_cells {w : World} {a : Addr} {xs : List LeaseD} (h : LeasesAt w (some a) xs) : ∀ j u, (cLeases xs)[j]? = some u → w.cell? (a.add j) = some u := by
  intro j u hj
  have hjl : j < xs.length * 3 := by
    rw [← cLeases_length]
    exact (List.getElem?_eq_some_iff.1 hj).1
  have hr : j % 3 < 3 := Nat.mod_lt _ (by omega)
  have hi : j / 3 < xs.length := by omega
  have e : j / 3 * 3 + j % 3 = j := by omega
  have hc := cLeases_at xs (j / 3) hi (j % 3) hr
  rw [e, hj] at hc
  obtain ⟨a', ha', _, k0, k1, k2⟩ := h (j / 3) hi
  cases ha'
  rw [← e]
  generalize j / 3 = i at *
  generalize j % 3 = r at *
  match r, hr with
  | 0, _ => rw [Nat.add_zero] ; simp [cLease] at hc; subst hc; exact k0
  | 1, _ => rw [add_next a (i * 3) 0]; simp [cLease] at hc; subst hc; exact k1
  | 2, _ => rw [add_next a (i * 3) 1]; simp [cLease] at hc; subst hc; exact k2
theorem leasesAt_drop {w : World} {a : Addr} {xs : List LeaseD} (h : LeasesAt w (some a) xs) (l : Nat) : LeasesAt w (some (a.add (l * 3))) (xs.drop l) := by
  intro i hi
  rw [List.length_drop] at hi
  obtain ⟨a', ha', hl, k0, k1, k2⟩ := h (l + i) (by omega)
  cases ha'
  refine ⟨_, rfl, by rw [add_block]; exact hl, ?_⟩
  have e : (a.add (l * 3)).add (i * 3) = a.add ((l + i) * 3) := by rw [add_add']; congr 1; omega
  simp only [List.getElem_drop, e]
  exact ⟨k0, k1, k2⟩
theorem leasesAt_take {w : World} {ad : Option Addr} {xs : List LeaseD} (h : LeasesAt w ad xs) (n : Nat) : LeasesAt w ad (xs.take n) := by
  intro i hi
  rw [List.length_take] at hi
  obtain ⟨a', ha', hl, hk⟩ := h i (by omega)
  refine ⟨a', ha', hl, ?_⟩
  simp only [List.getElem_take]
  exact hk
theorem src_lease {w : World} {ad : Option Addr} {xs : List LeaseD} (h : LeasesAt w ad xs) : ∀ j u, (cLeases xs)[j]? = some u → ∃ a, ad = some a ∧ w.cell? (a.add j) = some u := by
  intro j u hj
  cases xs with
  | nil => simp [cLeases] at hj
  | cons x l =>
    obtain ⟨a, ha, _⟩ := h 0 (by simp)
    subst ha
    exact ⟨a, rfl, leasesAt_cells h j u hj⟩
/-- The part from lo up to hi, as slicing leaves its address. -/
theorem part_lease {w : World} {ad : Option Addr} {xs : List LeaseD} (h : LeasesAt w ad xs) (lo hi cap : Nat) (h2 : hi ≤ xs.length) (h3 : xs.length ≤ cap) :
    ∀ j u, (cLeases ((xs.take hi).drop lo))[j]? = some u → ∃ a, (if cap = lo then ad else ad.map (·.add (lo * 3))) = some a ∧ w.cell? (a.add j) = some u := by
  intro j u hj
  by_cases hlt : lo < hi
  · obtain ⟨a, ha, _⟩ := h lo (by omega)
    subst ha
    rw [if_neg (by omega)]
    exact ⟨_, rfl, leasesAt_cells (leasesAt_drop (leasesAt_take h hi) lo) j u hj⟩
  · rw [List.drop_of_length_le (by rw [List.length_take]; omega)] at hj
    simp [cLeases] at hj
theorem Tryd.info_lease : (Tryd.prog.info? 70).map (fun i => (i.zero, i.size, i.bytes)) = some (some (.agg #[.string ⟨#[]⟩, .string ⟨#[]⟩, .int .i64 0]), 3, 40) := by kernel_rfl
theorem own_leases {w : World} {B : Nat} {v : Value} {xs : List LeaseD} (h : w.ownsRow B 70 3 v xs.length (cLeases xs)) : ∃ ad cap, v = .slice ad xs.length cap ∧ LeasesAt w ad xs := by
  rcases h.2 with ⟨rfl, hn⟩ | ⟨g, cap, cur, rfl, _⟩
  · have : xs = [] := List.eq_nil_of_length_eq_zero hn
    subst this
    exact ⟨none, 0, rfl, fun i hi => by simp at hi⟩
  · exact ⟨_, _, rfl, ownLeases h rfl⟩
theorem lease_new (w : World) (x : LeaseD) (t : TypeId) : ∀ j u, (cLease x)[j]? = some u → (w.alloc (.cells #[.string x.job, .string x.node, .int .i64 x.til] t)).cell? ((⟨w.heap.size, 0, none⟩ : Addr).add j) = some u := by
  intro j u hj
  rw [addr_add]
  exact (box_new3 w (.string x.job) (.string x.node) (.int .i64 x.til) t).1 j u hj
theorem lease_ones (x : LeaseD) : ∀ u : Value, u ∈ cLease x → u.oneCell' = true := fun u hu => cLeases_ones [x] u (by rw [cLeases_one]; exact hu)
end Go.Proofs.YtdbopgmckndmeaaDoor
