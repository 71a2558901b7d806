/- Package req: Check at every request, in one contract. -/
import Derived.Test.YthpgkfonbmffdaaGreatDoorRqCheck
namespace Go.Proofs.YthpgkfonbmffdaaGreatDoor
open Go.RowKit Go.Lib

/-- A request whose numbers and strings Go can hold. -/
def wReq (q : ReqD) : Prop := (Lit.int .i64 q.kind).wf = true ∧ wJob q.job ∧ wNode q.node ∧ wLease q.lease ∧ q.name.size ≤ maxLen ∧ (Lit.int .i64 q.n).wf = true
/-- A kind whose fields hold names. -/
def Txt (k : Int) : Prop := 1 ≤ k ∧ k ≤ 6
theorem kinds {k : Int} (h : 1 ≤ k ∧ k ≤ 9) : k = 1 ∨ k = 2 ∨ k = 3 ∨ k = 4 ∨ k = 5 ∨ k = 6 ∨ k = 7 ∨ k = 8 ∨ k = 9 := by omega
theorem qcheck_same {q p : ReqD} (h : 1 ≤ q.kind ∧ q.kind ≤ 9) (ho : ownQ q = p) {e : Nat} (hp : partE V8 q = e) : qcheckE V8 q = (if sameQ q p then e else 4) := by
  by_cases hs : ownQ q = q
  · rw [qcheck_part V8 h hs, hp, (sameQ_iff q p).2 (hs.symm.trans ho), if_pos rfl]
  · rw [qcheck_extra V8 h hs, sameQ_no (fun e => hs (ho.trans e.symm))]; rfl
set_option maxRecDepth 100000 in
theorem qcheck_any (q : ReqD) (hw : wReq q) (w : World) (hT : Txt q.kind → Tabs w) :
    Calls Tryz.prog 110 #[.agg #[.int .i64 q.kind, .string q.job.name, .int .i64 q.job.prio, .int .i64 q.job.need, .int .i64 q.job.tries, .string q.job.tag, .string q.node.name, .int .i64 q.node.room, .string q.node.zone, .string q.lease.job, .string q.lease.node, .int .i64 q.lease.til, .string q.name, .int .i64 q.n]] w fun e w' => e = .returned (.int .i64 (qcheckE V8 q : Nat)) ∧ Below w.heap.size w w' := by
  obtain ⟨k, j, n, l, nm, N⟩ := q
  obtain ⟨_, hj, hn, _, _, _⟩ := hw
  simp only at hj hn hT ⊢
  by_cases h : 1 ≤ k ∧ k ≤ 9
  · rcases kinds h with rfl | rfl | rfl | rfl | rfl | rfl | rfl | rfl | rfl
    · rw [qcheck_same (q := ⟨1, j, n, l, nm, N⟩) (p := (⟨1, j, zNode, zLease, ⟨#[]⟩, 0⟩ : ReqD)) (e := jobE V8 j) h (by simp [ownQ]) (by simp [partE])]; exact qcheck1_is j n l nm N hj w (hT ⟨by decide, by decide⟩)
    · rw [qcheck_same (q := ⟨2, j, n, l, nm, N⟩) (p := (⟨2, zJob, n, zLease, ⟨#[]⟩, 0⟩ : ReqD)) (e := nodeE V8 n) h (by simp [ownQ]) (by simp [partE])]; exact qcheck2_is j n l nm N hn w (hT ⟨by decide, by decide⟩)
    · rw [qcheck_same (q := ⟨3, j, n, l, nm, N⟩) (p := (⟨3, zJob, zNode, zLease, nm, 0⟩ : ReqD)) (e := (if isName V8 nm then 0 else 4)) h (by simp [ownQ]) (by simp [partE])]; exact qcheck3_is j n l nm N w (hT ⟨by decide, by decide⟩)
    · rw [qcheck_same (q := ⟨4, j, n, l, nm, N⟩) (p := (⟨4, zJob, zNode, zLease, nm, 0⟩ : ReqD)) (e := (if isName V8 nm then 0 else 4)) h (by simp [ownQ]) (by simp [partE])]; exact qcheck4_is j n l nm N w (hT ⟨by decide, by decide⟩)
    · rw [qcheck_same (q := ⟨5, j, n, l, nm, N⟩) (p := (⟨5, zJob, zNode, l, ⟨#[]⟩, 0⟩ : ReqD)) (e := leaseCE V8 l) h (by simp [ownQ]) (by simp [partE])]; exact qcheck5_is j n l nm N w (hT ⟨by decide, by decide⟩)
    · rw [qcheck_same (q := ⟨6, j, n, l, nm, N⟩) (p := (⟨6, zJob, zNode, zLease, nm, 0⟩ : ReqD)) (e := (if isName V8 nm then 0 else 4)) h (by simp [ownQ]) (by simp [partE])]; exact qcheck6_is j n l nm N w (hT ⟨by decide, by decide⟩)
    · rw [qcheck_same (q := ⟨7, j, n, l, nm, N⟩) (p := (⟨7, zJob, zNode, zLease, ⟨#[]⟩, N⟩ : ReqD)) (e := (if inR N 0 1099511627776 then 0 else 1)) h (by simp [ownQ]) (by simp [partE])]; exact qcheck7_is j n l nm N w
    · rw [qcheck_same (q := ⟨8, j, n, l, nm, N⟩) (p := (⟨8, zJob, zNode, zLease, ⟨#[]⟩, 0⟩ : ReqD)) (e := 0) h (by simp [ownQ, kindQ]) (by simp [partE])]; exact qcheck8_is j n l nm N w
    · rw [qcheck_same (q := ⟨9, j, n, l, nm, N⟩) (p := (⟨9, zJob, zNode, zLease, ⟨#[]⟩, 0⟩ : ReqD)) (e := 0) h (by simp [ownQ, kindQ]) (by simp [partE])]; exact qcheck9_is j n l nm N w
  · rw [qcheck_arg V8 (q := ⟨k, j, n, l, nm, N⟩) h]; exact qcheck0_is k h j n l nm N w
end Go.Proofs.YthpgkfonbmffdaaGreatDoor
