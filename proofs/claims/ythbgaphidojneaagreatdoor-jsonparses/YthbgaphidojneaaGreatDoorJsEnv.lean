/- What package json's functions ask of the library's variables. -/
import Derived.Test.YthbgaphidojneaaGreatDoorJsPrint
import Derived.Test.YthbgaphidojneaaGreatDoorPkTxt
namespace Go.Proofs.YthbgaphidojneaaGreatDoor
open Go.RowKit

/-- The library's variables, as far as package json comes to them. -/
structure JTabs (w : World) : Prop where
  tabs : Tabs w
  pow : Pow10 w
  most : ∃ m, w.cell? ⟨Tryz.layCut_ren.g 1, 0, none⟩ = some (.int .i64 m)
  syn : ∃ te pe, w.cell? ⟨3, 0, none⟩ = some (.iface te pe)
  rng : ∃ te pe, w.cell? ⟨4, 0, none⟩ = some (.iface te pe)
theorem cell_kept {w w' : World} {a : Addr} {v : Value} (h : w.cell? a = some v) (hb : Below w.heap.size w w') : w'.cell? a = some v := by
  rw [hb.cell (World.block_lt_of_cell? _ _ h)]; exact h
theorem JTabs.below {w w' : World} (h : JTabs w) (hb : Below w.heap.size w w') : JTabs w' := {
  tabs := h.tabs.below hb
  pow := h.pow.below hb
  most := let ⟨m, hm⟩ := h.most; ⟨m, cell_kept hm hb⟩
  syn := let ⟨a, b, hm⟩ := h.syn; ⟨a, b, cell_kept hm hb⟩
  rng := let ⟨a, b, hm⟩ := h.rng; ⟨a, b, cell_kept hm hb⟩
  }
def seven : StD := ⟨7, [], [], []⟩
theorem seven_at (w : World) : JobsAt w none seven.jobs ∧ NodesAt w none seven.nodes ∧ LeasesAt w none seven.leases := ⟨fun i h => by simp [seven] at h, fun i h => by simp [seven] at h, fun i h => by simp [seven] at h⟩
theorem seven_w : wState seven := ⟨by decide, fun _ h => by simp [seven] at h, fun _ h => by simp [seven] at h, fun _ h => by simp [seven] at h⟩
theorem digN_7 : digN 7 = [55] := digN_lt (by decide)
theorem seven_pr : prR seven = (⟨#[123, 34, 114, 101, 118, 34, 58, 55, 44, 34, 106, 111, 98, 115, 34, 58, 91, 93, 44, 34, 110, 111, 100, 101, 115, 34, 58, 91, 93, 44, 34, 108, 101, 97, 115, 101, 115, 34, 58, 91, 93, 125]⟩, 0) := by
  rw [pr_ok (by rfl)]
  simp [stJ, seven, digZ, digN_7, listL, baL]
set_option maxRecDepth 100000 in
theorem printed_is (w : World) (hT : JTabs w) : Calls Tryz.prog 10 #[] w fun e w' => e = .returned (.bool true) ∧ Below w.heap.size w w' := by
  have h := print_any seven none none none 0 0 0 seven_w w hT.tabs hT.pow (seven_at _).1 (seven_at _).2.1 (seven_at _).2.2
  rw [seven_pr] at h
  have H : Hid (Calls Tryz.prog 11 #[.agg #[.int .i64 7, .slice none 0 0, .slice none 0 0, .slice none 0 0]] w _) := h
  clear h hT
  go_enter Tryz.func10, Tryz.ntmps10
  go_wp2_with fail
  refine H.out.mono ?_
  rintro e w1 ⟨rfl, b1⟩
  go_wp2
  go_ret
  exact ⟨rfl, b1⟩
end Go.Proofs.YthbgaphidojneaaGreatDoor
