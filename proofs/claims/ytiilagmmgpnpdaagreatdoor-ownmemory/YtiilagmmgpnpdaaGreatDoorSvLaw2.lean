/- What the laws on a server share: from one call of Do to the next one. -/
import Derived.Test.YtiilagmmgpnpdaaGreatDoorPkSv5
import Derived.Test.YtiilagmmgpnpdaaGreatDoorPkSv2
namespace Go.Proofs.YtiilagmmgpnpdaaGreatDoor
open Go.RowKit Go.Lib

/-- From one world of a law to a later one: the server at b turned, then blocks were made. -/
def DoTo (b : Nat) (X X' : World) : Prop := ∃ v w5, SvAt b v X ∧ X.grownBy w5 (some b) ∧ Below w5.heap.size w5 X'
theorem doTo_obj {b N : Nat} {X X' : World} {vs : Array Value} {t : TypeId} (h : DoTo b X X') (o : ObjAt N vs t X) (ht : t ≠ 77) : ObjAt N vs t X' := by
  obtain ⟨v, w5, sv, g, k⟩ := h
  exact objAt_next (objAt_gN o (svNe sv o ht) g) k
theorem doTo_own {b B : Nat} {X X' : World} {aj an al : Option Addr} {cj cn cl : Nat} {s : StD} (h : DoTo b X X') (o : OwnS B aj an al cj cn cl s X) : OwnS B aj an al cj cn cl s X' := by
  obtain ⟨v, w5, sv, g, k⟩ := h
  exact ownS_next (svOwn_do o sv g) k
theorem doTo_in {w0 X X' : World} {b c : Nat} {u : SvD} (h : DoTo b X X') (k : SvIn w0 c u X) (hn : c ≠ b) (hb : w0.heap.size ≤ b) : SvIn w0 c u X' := by
  obtain ⟨v, w5, sv, g, l⟩ := h
  exact svIn_next ⟨svAt_two k.1 sv hn g, k.2.1, k.2.2.1, gN_below k.2.2.2.1 k.2.2.2.2.2.1 hb g, k.2.2.2.2.1, Nat.le_trans k.2.2.2.2.2.1 g.size, svIn_tabs sv k.2.2.2.2.2.2 g⟩ l
theorem do_done {w0 X w5 : World} {b : Nat} {v : SvD} {q : ReqD} (h : SvIn w0 b v X) (s5 : SvAt b (doR V8 v.s v.now q).1 w5) (g : X.grownBy w5 (some b)) (rc dc : Array Value) :
    SvIn w0 b (doR V8 v.s v.now q).1 ((w5.alloc (.cells rc 46)).alloc (.cells dc 49)) ∧ DoTo b X ((w5.alloc (.cells rc 46)).alloc (.cells dc 49)) ∧ ObjAt w5.heap.size rc 46 ((w5.alloc (.cells rc 46)).alloc (.cells dc 49)) := by
  have b1 := below_one w5 (.cells rc 46)
  have b2 := below_one (w5.alloc (.cells rc 46)) (.cells dc 49)
  have bx := below_trans b1 b2 (by simp)
  exact ⟨svIn_next (svIn_do h s5 g) bx, ⟨v, w5, h.1, g, bx⟩, objAt_next (objAt_new w5 rc 46) b2⟩
theorem do_bare {w0 X w5 : World} {b : Nat} {v : SvD} {q : ReqD} (h : SvIn w0 b v X) (s5 : SvAt b (doR V8 v.s v.now q).1 w5) (g : X.grownBy w5 (some b)) : SvIn w0 b (doR V8 v.s v.now q).1 w5 ∧ DoTo b X w5 :=
  ⟨svIn_do h s5 g, v, w5, h.1, g, Below.refl _ _⟩
theorem wReq_put {j : JobD} (h : wJob j) : wReq (putQ j) := ⟨wI (n := 1) (by decide), h, wN0, wL0, wE0, wI (n := 0) (by decide)⟩
theorem wReq_grant {l : LeaseD} (h : wLease l) : wReq (grantQ l) := ⟨wI (n := 5) (by decide), wJ0, wN0, h, wE0, wI (n := 0) (by decide)⟩
theorem wReq_del {x : ByteArray} (h : x.size ≤ maxLen) : wReq (delQ x) := ⟨wI (n := 3) (by decide), wJ0, wN0, wL0, h, wI (n := 0) (by decide)⟩
theorem wReq_free {x : ByteArray} (h : x.size ≤ maxLen) : wReq (freeQ x) := ⟨wI (n := 6) (by decide), wJ0, wN0, wL0, h, wI (n := 0) (by decide)⟩
/-- Four cells of one block, kept in a drawn region. -/
theorem held4n {X w w' : World} {n : Nat} {x0 x1 x2 x3 : Value} (l : n < X.heap.size) (h : (w.cell? ⟨n, 0, none⟩ = some x0 ∧ w.cell? ⟨n, 1, none⟩ = some x1 ∧ w.cell? ⟨n, 2, none⟩ = some x2 ∧ w.cell? ⟨n, 3, none⟩ = some x3) ∧ Below X.heap.size X w) (k : Below w.heap.size w w') :
    (w'.cell? ⟨n, 0, none⟩ = some x0 ∧ w'.cell? ⟨n, 1, none⟩ = some x1 ∧ w'.cell? ⟨n, 2, none⟩ = some x2 ∧ w'.cell? ⟨n, 3, none⟩ = some x3) ∧ Below X.heap.size X w' := by
  have hs := h.2.size
  obtain ⟨⟨h0, h1, h2, h3⟩, hB⟩ := h
  exact ⟨⟨by rw [k.cell (p := ⟨n, 0, none⟩) (by show n < _; omega)]; exact h0, by rw [k.cell (p := ⟨n, 1, none⟩) (by show n < _; omega)]; exact h1, by rw [k.cell (p := ⟨n, 2, none⟩) (by show n < _; omega)]; exact h2, by rw [k.cell (p := ⟨n, 3, none⟩) (by show n < _; omega)]; exact h3⟩, below_trans hB k hs⟩
theorem held5n {X w w' : World} {n : Nat} {x0 x1 x2 x3 x4 : Value} (l : n < X.heap.size) (h : (w.cell? ⟨n, 0, none⟩ = some x0 ∧ w.cell? ⟨n, 1, none⟩ = some x1 ∧ w.cell? ⟨n, 2, none⟩ = some x2 ∧ w.cell? ⟨n, 3, none⟩ = some x3 ∧ w.cell? ⟨n, 4, none⟩ = some x4) ∧ Below X.heap.size X w) (k : Below w.heap.size w w') :
    (w'.cell? ⟨n, 0, none⟩ = some x0 ∧ w'.cell? ⟨n, 1, none⟩ = some x1 ∧ w'.cell? ⟨n, 2, none⟩ = some x2 ∧ w'.cell? ⟨n, 3, none⟩ = some x3 ∧ w'.cell? ⟨n, 4, none⟩ = some x4) ∧ Below X.heap.size X w' := by
  have hs := h.2.size
  obtain ⟨⟨h0, h1, h2, h3, h4⟩, hB⟩ := h
  exact ⟨⟨by rw [k.cell (p := ⟨n, 0, none⟩) (by show n < _; omega)]; exact h0, by rw [k.cell (p := ⟨n, 1, none⟩) (by show n < _; omega)]; exact h1, by rw [k.cell (p := ⟨n, 2, none⟩) (by show n < _; omega)]; exact h2, by rw [k.cell (p := ⟨n, 3, none⟩) (by show n < _; omega)]; exact h3, by rw [k.cell (p := ⟨n, 4, none⟩) (by show n < _; omega)]; exact h4⟩, below_trans hB k hs⟩
theorem small4 {s : StD} (h : checkE V8 s = 0) : s.jobs.length ≤ 140737488355328 ∧ s.nodes.length ≤ 140737488355328 ∧ s.leases.length ≤ 140737488355328 := by
  have := (small_sv h).1
  omega
theorem drewN_below (X : World) (n : Nat) : Below X.heap.size X (X.drewN n) := ⟨rfl, rfl, rfl, Nat.le_refl _, fun _ _ => rfl⟩
theorem svNow_drew {w0 X : World} {b : Nat} {v : SvD} (h : SvIn w0 b v X) (n : Nat) : Calls Tryz.prog 20 #[.pointer (some ⟨b, 0, none⟩)] (X.drewN n) fun e w' => e = .returned (.int .i64 v.now) ∧ w' = X.drewN n :=
  svNow_is b v _ (svAt_next h.1 (drewN_below X n))
/-- What State answers, with what the law knows behind it. -/
theorem svState_in {w0 X : World} {b : Nat} {v : SvD} (h : SvIn w0 b v X) : Calls Tryz.prog 19 #[.pointer (some ⟨b, 0, none⟩)] X fun e w' => ∃ aj an al cj cn cl, e = .returned (.agg #[.int .i64 v.s.rev, .slice aj v.s.jobs.length cj, .slice an v.s.nodes.length cn, .slice al v.s.leases.length cl]) ∧ OwnS X.heap.size aj an al cj cn cl v.s w' ∧ Below X.heap.size X w' :=
  svState_is b v h.2.1 X h.1
theorem noJob {l : List JobD} {x : ByteArray} (h : hasJob l x = false) : ∀ y ∈ l, y.name ≠ x := fun y hy e => by rw [(hasJob_iff _ _).2 ⟨y, hy, e⟩] at h; cases h
theorem noLease {l : List LeaseD} {x : ByteArray} (h : hasLease l x = false) : ∀ y ∈ l, y.job ≠ x := fun y hy e => by rw [(hasLease_iff _ _).2 ⟨y, hy, e⟩] at h; cases h
theorem at_no {α : Type} {key : α → ByteArray} {l : List α} {x : ByteArray} {r : Int} (h : At key l x r) (hm : ∀ y ∈ l, key y ≠ x) : r < 0 := by
  rcases at_or h with h | ⟨_, y, hy, e⟩
  · exact h.1
  · exact absurd e (hm y hy)
theorem at_yes {α : Type} {key : α → ByteArray} {l : List α} {x : ByteArray} {r : Int} (h : At key l x r) (hm : ∃ y ∈ l, key y = x) : ∃ i, ∃ hi : i < l.length, r = (i : Int) ∧ key l[i] = x := by
  rcases h with ⟨_, h⟩ | ⟨k, hk, e, hx, _⟩
  · obtain ⟨y, hy, e⟩ := hm
    obtain ⟨i, hi, rfl⟩ := List.getElem_of_mem hy
    exact absurd e (h i hi)
  · exact ⟨k, hk, e, hx⟩
end Go.Proofs.YtiilagmmgpnpdaaGreatDoor
