/- The laws' own closed fact about deltas: differed. -/
import Derived.Test.YtheolakkicagkaaGreatDoorDlEq
import Derived.Test.YtheolakkicagkaaGreatDoorDlDiff
import Derived.Test.YtheolakkicagkaaGreatDoorPkSt2
namespace Go.Proofs.YtheolakkicagkaaGreatDoor
open Go.RowKit Go.Lib

def sampS : StD := ⟨4, sampleJ, sampleN, sampleL⟩
def sampT : StD := ⟨9, sampleJ, sampleN, []⟩
theorem sampT_check : checkE V8 sampT = 0 := by
  simp [sampT, checkE, headSE, sampleJ, sampleN, rowsE, jobE, nodeE, isName, isNote, v1, v0, size1, size0, inR, orE, badO, lt_ab, roomE, usedD, sumZ]
theorem wState_chk {s : StD} (h : checkE V8 s = 0) : wState s := wState_ok (v := 3) (ok_of_valid ((check_zero V8 s).1 h) (by simp [fitsD]))
theorem samp_diff : diffR V8 sampS sampT = (⟨4, 9, [], [], [], [], [], [⟨#[97]⟩]⟩, 0) := by
  rw [diffR_ok (show checkE V8 sampS = 0 from sample_check) sampT_check (by decide)]
  unfold diffS sampS sampT
  simp only [new_self, gone_self]
  simp [newL, goneL, sampleL]
/-- The changed sample in its block. -/
def DsAt (N H : Nat) (aj an : Option Addr) (cj cn : Nat) (w V : World) : Prop := ObjAt N #[.int .i64 9, .slice aj sampleJ.length cj, .slice an sampleN.length cn, .slice none 0 0] 26 V ∧ Below H w V ∧ H ≤ N ∧ JobsAt V aj sampleJ ∧ NodesAt V an sampleN
theorem ds_next {N H : Nat} {aj an : Option Addr} {cj cn : Nat} {w V V' : World} (h : DsAt N H aj an cj cn w V) (b : Below V.heap.size V V') : DsAt N H aj an cj cn w V' :=
  ⟨objAt_next h.1 b, below_trans h.2.1 b (by have := objAt_lt h.1; have := h.2.2.1; omega), h.2.2.1, jobsAt_next h.2.2.2.1 b, nodesAt_next h.2.2.2.2 b⟩
theorem ds_drew {N H : Nat} {aj an : Option Addr} {cj cn : Nat} {w V : World} (h : DsAt N H aj an cj cn w V) : DsAt N H aj an cj cn w V.drew := ⟨objAt_drew h.1, h.2.1.drew, h.2.2.1, h.2.2.2.1, h.2.2.2.2⟩
theorem ds_size {N H : Nat} {aj an : Option Addr} {cj cn : Nat} {w V : World} (h : DsAt N H aj an cj cn w V) : H ≤ V.heap.size := by have := objAt_lt h.1; have := h.2.2.1; omega
def DdRel (H : Nat) (w : World) (p e : Value) (wc : World) : Prop := ∃ (L : Nat) (M : DlM), p = .pointer (some ⟨L, 0, none⟩) ∧ e = .int .i64 0 ∧ ObjAt L #[.int .i64 4, .int .i64 9, .slice M.aj 0 M.cj, .slice M.an 0 M.cn, .slice M.al 0 M.cl, .slice M.gj 0 M.hj, .slice M.gn 0 M.hn, .slice M.gl 1 M.hl] 29 wc ∧ OwnD H M ⟨4, 9, [], [], [], [], [], [⟨#[97]⟩]⟩ wc ∧ Below H w wc
theorem dd_put {H K : Nat} {w v : World} {M : DlM} {a0 a1 a2 a3 a4 a5 a6 a7 : Value} (z : ObjAt K #[a0, a1, a2, a3, a4, a5, a6, a7] 29 v) (o : OwnD H M ⟨4, 9, [], [], [], [], [], [⟨#[97]⟩]⟩ v) (b : Below H w v) (hK : H ≤ K) : DdRel H w (.pointer (some ⟨K, 0, none⟩)) (.int .i64 0) ((((((((v.setCell ⟨K, 0, none⟩ (.int .i64 4)).setCell ⟨K, 1, none⟩ (.int .i64 9)).setCell ⟨K, 2, none⟩ (.slice M.aj 0 M.cj)).setCell ⟨K, 3, none⟩ (.slice M.an 0 M.cn)).setCell ⟨K, 4, none⟩ (.slice M.al 0 M.cl)).setCell ⟨K, 5, none⟩ (.slice M.gj 0 M.hj)).setCell ⟨K, 6, none⟩ (.slice M.gn 0 M.hn)).setCell ⟨K, 7, none⟩ (.slice M.gl 1 M.hl)) :=
  ⟨K, M, rfl, rfl, obj_put8 z (.int .i64 4) (.int .i64 9) (.slice M.aj 0 M.cj) (.slice M.an 0 M.cn) (.slice M.al 0 M.cl) (.slice M.gj 0 M.hj) (.slice M.gn 0 M.hn) (.slice M.gl 1 M.hl), ownD_put8 o z (.int .i64 4) (.int .i64 9) (.slice M.aj 0 M.cj) (.slice M.an 0 M.cn) (.slice M.al 0 M.cl) (.slice M.gj 0 M.hj) (.slice M.gn 0 M.hn) (.slice M.gl 1 M.hl), below_put8 b hK (.int .i64 4) (.int .i64 9) (.slice M.aj 0 M.cj) (.slice M.an 0 M.cn) (.slice M.al 0 M.cl) (.slice M.gj 0 M.hj) (.slice M.gn 0 M.hn) (.slice M.gl 1 M.hl)⟩
theorem dd_new {H : Nat} {w v : World} {M : DlM} (o : OwnD H M ⟨4, 9, [], [], [], [], [], [⟨#[97]⟩]⟩ v) (b : Below H w v) (hs : H ≤ v.heap.size) : DdRel H w (.pointer (some ⟨v.heap.size, 0, none⟩)) (.int .i64 0) (v.alloc (.cells #[.int .i64 4, .int .i64 9, .slice M.aj 0 M.cj, .slice M.an 0 M.cn, .slice M.al 0 M.cl, .slice M.gj 0 M.hj, .slice M.gn 0 M.hn, .slice M.gl 1 M.hl] 29)) :=
  ⟨_, M, rfl, rfl, objAt_new _ _ _, ownD_next o (below_one _ _), below_trans b (below_one _ _) hs⟩
end Go.Proofs.YtheolakkicagkaaGreatDoor
