/- Package req: replies, as bytes and back. -/
import Derived.Test.YthpgkfonbmffdaaGreatDoorRqM
import Derived.Test.YthpgkfonbmffdaaGreatDoorDlNum
namespace Go.Proofs.YthpgkfonbmffdaaGreatDoor
open Go.RowKit Go.Lib

/-- Two blocks beside a coder: what is passed, and what is handed back. -/
def PairSt (b : Nat) (v : Int) (t : TypeId) (m : M) (vs rs : Array Value) (w0 w : World) : Prop :=
  CodeAt b v m w ∧ ObjAt w0.heap.size vs t w ∧ ObjAt (w0.heap.size + 1) rs t w ∧ Keep b w0 w ∧ b < w0.heap.size ∧ t ≠ 5
theorem pairSt_new {b : Nat} {v : Int} {t : TypeId} {m : M} {w : World} (vs rs : Array Value) (h : CodeAt b v m w) (ht : t ≠ 5) : PairSt b v t m vs rs w ((w.alloc (.cells vs t)).alloc (.cells rs t)) := by
  have o1 := objAt_new w vs t
  have o2 := objAt_new (w.alloc (.cells vs t)) rs t
  rw [World.size_alloc] at o2
  exact ⟨code_alloc (code_alloc h _) _, objAt_next o1 (below_one _ _), o2, keep_trans (keep_alloc b w _) (keep_alloc b _ _), code_lt h, ht⟩
theorem pairSt_call {b : Nat} {v : Int} {t : TypeId} {m m' : M} {vs rs : Array Value} {w0 w w1 : World} (h : PairSt b v t m vs rs w0 w) (hc : CodeAt b v m' w1) (hk : Keep b w w1) : PairSt b v t m' vs rs w0 w1 := by
  obtain ⟨_, h2, h3, h4, h6, h7⟩ := h
  exact ⟨hc, keep_obj h2 hk (by omega) h7, keep_obj h3 hk (by omega) h7, keep_trans h4 hk, h6, h7⟩
theorem pairSt_store {b : Nat} {v : Int} {t : TypeId} {m : M} {vs rs : Array Value} {w0 w : World} (h : PairSt b v t m vs rs w0 w) (j : Nat) (u : Value) : PairSt b v t m (vs.setIfInBounds j u) rs w0 (w.setCell ⟨w0.heap.size, j, none⟩ u) := by
  obtain ⟨h1, h2, h3, h4, h6, h7⟩ := h
  exact ⟨code_set h1 h2 (by omega) h7 j u, objAt_set h2 j u, objAt_other h3 (by omega) j u, keep_new h4 (Nat.le_refl _) j u, h6, h7⟩
theorem pairSt_back {b : Nat} {v : Int} {t : TypeId} {m : M} {vs rs : Array Value} {w0 w : World} (h : PairSt b v t m vs rs w0 w) (j : Nat) (u : Value) : PairSt b v t m vs (rs.setIfInBounds j u) w0 (w.setCell ⟨w0.heap.size + 1, j, none⟩ u) := by
  obtain ⟨h1, h2, h3, h4, h6, h7⟩ := h
  exact ⟨code_set h1 h3 (by omega) h7 j u, objAt_other h2 (by omega) j u, objAt_set h3 j u, keep_new h4 (by omega) j u, h6, h7⟩
theorem isTime_is (n : Int) (w : World) :
    Calls Tryz.prog 254 #[.int .i64 n] w fun e w' => e = .returned (.bool (inR n 0 1099511627776)) ∧ w = w' := by
  unfold inR
  by_cases h : 0 ≤ n
  · by_cases h2 : n ≤ 1099511627776
    · have h1 : decide (0 ≤ n) = true := decide_eq_true h
      have h3 : decide (n ≤ 1099511627776) = true := decide_eq_true h2
      rw [h1, h3]
      go_enter Tryz.func254, Tryz.ntmps254
      go_wp2
      go_ret
      exact ⟨rfl, rfl⟩
    · have h1 : decide (0 ≤ n) = true := decide_eq_true h
      have h3 : decide (n ≤ 1099511627776) = false := decide_eq_false h2
      rw [h1, h3]
      clear h2
      go_enter Tryz.func254, Tryz.ntmps254
      go_wp2
      go_ret
      exact ⟨rfl, rfl⟩
  · have h1 : decide (0 ≤ n) = false := decide_eq_false h
    rw [h1]
    clear h
    go_enter Tryz.func254, Tryz.ntmps254
    go_wp2
    go_ret
    exact ⟨by simp, rfl⟩
/-- What checkReply answers. -/
def pchkR (r : RepD) : Nat := if goodP r then 0 else 1
/-- What passing a reply wants: one that may be written, or one of zeros that is read over. -/
def InP (r : RepD) (m : M) : Prop := (m.reading = false ∧ readP r) ∨ (m.reading = true ∧ r = zeroP)
theorem pB_ne (r : RepD) : pB r ≠ [] := by
  have h := num_pos r.code.toNat
  unfold pB intE
  intro e
  have := congrArg List.length e
  simp only [List.length_append, List.length_nil] at this
  omega
theorem put2 {b : Nat} {x y : Value} {t : TypeId} {w : World} (h : ObjAt b #[x, y] t w) (u v : Value) : ObjAt b #[u, v] t ((w.setCell ⟨b, 0, none⟩ u).setCell ⟨b, 1, none⟩ v) := objAt_set (objAt_set h 0 u) 1 v
end Go.Proofs.YthpgkfonbmffdaaGreatDoor
