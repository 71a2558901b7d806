/- Two requests compared: == and != between them are those of their data. -/
import Derived.Test.YthpgkfonbmffdaaGreatDoorRqM
import Derived.Test.YthpgkfonbmffdaaGreatDoorPkWi5
namespace Go.Proofs.YthpgkfonbmffdaaGreatDoor
open Go.RowKit Go.Lib

/-- Whether two requests are the same. -/
def sameQ (q p : ReqD) : Bool := (q.kind == p.kind) && (q.job.name.toList == p.job.name.toList) && (q.job.prio == p.job.prio) && (q.job.need == p.job.need) && (q.job.tries == p.job.tries) && (q.job.tag.toList == p.job.tag.toList) && (q.node.name.toList == p.node.name.toList) && (q.node.room == p.node.room) && (q.node.zone.toList == p.node.zone.toList) && (q.lease.job.toList == p.lease.job.toList) && (q.lease.node.toList == p.lease.node.toList) && (q.lease.til == p.lease.til) && (q.name.toList == p.name.toList) && (q.n == p.n)
theorem tl_eq {a b : ByteArray} (h : a.toList = b.toList) : a = b := by
  by_cases e : a = b
  · exact e
  · have h2 := lists_ne e
    rw [h] at h2
    simp at h2
theorem sameQ_iff (q p : ReqD) : sameQ q p = true ↔ q = p := by
  unfold sameQ
  simp only [Bool.and_eq_true, beq_iff_eq]
  constructor
  · intro h
    obtain ⟨k, ⟨j0, j1, j2, j3, j4⟩, ⟨n0, n1, n2⟩, ⟨l0, l1, l2⟩, nm, n⟩ := q
    obtain ⟨k', ⟨j0', j1', j2', j3', j4'⟩, ⟨n0', n1', n2'⟩, ⟨l0', l1', l2'⟩, nm', n'⟩ := p
    simp only at h
    obtain ⟨⟨⟨⟨⟨⟨⟨⟨⟨⟨⟨⟨⟨h0, h1⟩, h2⟩, h3⟩, h4⟩, h5⟩, h6⟩, h7⟩, h8⟩, h9⟩, h10⟩, h11⟩, h12⟩, h13⟩ := h
    rw [h0, tl_eq h1, h2, h3, h4, tl_eq h5, tl_eq h6, h7, tl_eq h8, tl_eq h9, tl_eq h10, h11, tl_eq h12, h13]
  · rintro rfl; simp
theorem sameQ_self (q : ReqD) : sameQ q q = true := (sameQ_iff q q).2 rfl
theorem sameQ_no {q p : ReqD} (h : q ≠ p) : sameQ q p = false := by
  cases e : sameQ q p with
  | false => rfl
  | true => exact absurd ((sameQ_iff q p).1 e) h
set_option maxRecDepth 100000 in
set_option maxHeartbeats 4000000 in
theorem rq_eql (q p : ReqD) (w : World) : (binOp BinOp.eql 44 (.agg #[.int .i64 q.kind, .string q.job.name, .int .i64 q.job.prio, .int .i64 q.job.need, .int .i64 q.job.tries, .string q.job.tag, .string q.node.name, .int .i64 q.node.room, .string q.node.zone, .string q.lease.job, .string q.lease.node, .int .i64 q.lease.til, .string q.name, .int .i64 q.n]) (.agg #[.int .i64 p.kind, .string p.job.name, .int .i64 p.job.prio, .int .i64 p.job.need, .int .i64 p.job.tries, .string p.job.tag, .string p.node.name, .int .i64 p.node.room, .string p.node.zone, .string p.lease.job, .string p.lease.node, .int .i64 p.lease.til, .string p.name, .int .i64 p.n])).run Tryz.prog w = .ok (.bool (sameQ q p)) w := by
  obtain ⟨c, hc⟩ : ∃ c, sameQ q p = c := ⟨_, rfl⟩
  rw [hc]
  have no : ¬ q = p → c = false := fun h => by rw [← hc]; exact sameQ_no h
  have yes : q = p → c = true := fun h => by rw [← hc]; exact (sameQ_iff q p).2 h
  clear hc
  obtain ⟨k, ⟨j0, j1, j2, j3, j4⟩, ⟨n0, n1, n2⟩, ⟨l0, l1, l2⟩, nm, n⟩ := q
  obtain ⟨k', ⟨j0', j1', j2', j3', j4'⟩, ⟨n0', n1', n2'⟩, ⟨l0', l1', l2'⟩, nm', n'⟩ := p
  have NO := Lib.hid no
  have YES := Lib.hid yes
  clear no yes
  simp only
  go_simp
  by_cases h0 : k = k'
  case neg => rw [NO.out (fun e => h0 (congrArg (fun q : ReqD => q.kind) e))]; simp [h0]
  by_cases h1 : j0.toList = j0'.toList
  case neg => rw [NO.out (fun e => h1 (congrArg (fun q : ReqD => q.job.name.toList) e))]; simp [h1]
  by_cases h2 : j1 = j1'
  case neg => rw [NO.out (fun e => h2 (congrArg (fun q : ReqD => q.job.prio) e))]; simp [h2]
  by_cases h3 : j2 = j2'
  case neg => rw [NO.out (fun e => h3 (congrArg (fun q : ReqD => q.job.need) e))]; simp [h3]
  by_cases h4 : j3 = j3'
  case neg => rw [NO.out (fun e => h4 (congrArg (fun q : ReqD => q.job.tries) e))]; simp [h4]
  by_cases h5 : j4.toList = j4'.toList
  case neg => rw [NO.out (fun e => h5 (congrArg (fun q : ReqD => q.job.tag.toList) e))]; simp [h5]
  by_cases h6 : n0.toList = n0'.toList
  case neg => rw [NO.out (fun e => h6 (congrArg (fun q : ReqD => q.node.name.toList) e))]; simp [h6]
  by_cases h7 : n1 = n1'
  case neg => rw [NO.out (fun e => h7 (congrArg (fun q : ReqD => q.node.room) e))]; simp [h7]
  by_cases h8 : n2.toList = n2'.toList
  case neg => rw [NO.out (fun e => h8 (congrArg (fun q : ReqD => q.node.zone.toList) e))]; simp [h8]
  by_cases h9 : l0.toList = l0'.toList
  case neg => rw [NO.out (fun e => h9 (congrArg (fun q : ReqD => q.lease.job.toList) e))]; simp [h9]
  by_cases h10 : l1.toList = l1'.toList
  case neg => rw [NO.out (fun e => h10 (congrArg (fun q : ReqD => q.lease.node.toList) e))]; simp [h10]
  by_cases h11 : l2 = l2'
  case neg => rw [NO.out (fun e => h11 (congrArg (fun q : ReqD => q.lease.til) e))]; simp [h11]
  by_cases h12 : nm.toList = nm'.toList
  case neg => rw [NO.out (fun e => h12 (congrArg (fun q : ReqD => q.name.toList) e))]; simp [h12]
  by_cases h13 : n = n'
  case neg => rw [NO.out (fun e => h13 (congrArg (fun q : ReqD => q.n) e))]; simp [h13]
  rw [YES.out (by rw [h0, tl_eq h1, h2, h3, h4, tl_eq h5, tl_eq h6, h7, tl_eq h8, tl_eq h9, tl_eq h10, h11, tl_eq h12, h13])]
  simp [h0, h1, h2, h3, h4, h5, h6, h7, h8, h9, h10, h11, h12, h13]
set_option maxRecDepth 100000 in
set_option maxHeartbeats 4000000 in
theorem rq_neq (q p : ReqD) (w : World) : (binOp BinOp.neq 44 (.agg #[.int .i64 q.kind, .string q.job.name, .int .i64 q.job.prio, .int .i64 q.job.need, .int .i64 q.job.tries, .string q.job.tag, .string q.node.name, .int .i64 q.node.room, .string q.node.zone, .string q.lease.job, .string q.lease.node, .int .i64 q.lease.til, .string q.name, .int .i64 q.n]) (.agg #[.int .i64 p.kind, .string p.job.name, .int .i64 p.job.prio, .int .i64 p.job.need, .int .i64 p.job.tries, .string p.job.tag, .string p.node.name, .int .i64 p.node.room, .string p.node.zone, .string p.lease.job, .string p.lease.node, .int .i64 p.lease.til, .string p.name, .int .i64 p.n])).run Tryz.prog w = .ok (.bool (!sameQ q p)) w := by
  obtain ⟨c, hc⟩ : ∃ c, sameQ q p = c := ⟨_, rfl⟩
  rw [hc]
  have no : ¬ q = p → c = false := fun h => by rw [← hc]; exact sameQ_no h
  have yes : q = p → c = true := fun h => by rw [← hc]; exact (sameQ_iff q p).2 h
  clear hc
  obtain ⟨k, ⟨j0, j1, j2, j3, j4⟩, ⟨n0, n1, n2⟩, ⟨l0, l1, l2⟩, nm, n⟩ := q
  obtain ⟨k', ⟨j0', j1', j2', j3', j4'⟩, ⟨n0', n1', n2'⟩, ⟨l0', l1', l2'⟩, nm', n'⟩ := p
  have NO := Lib.hid no
  have YES := Lib.hid yes
  clear no yes
  simp only
  go_simp
  by_cases h0 : k = k'
  case neg => rw [NO.out (fun e => h0 (congrArg (fun q : ReqD => q.kind) e))]; simp [h0]
  by_cases h1 : j0.toList = j0'.toList
  case neg => rw [NO.out (fun e => h1 (congrArg (fun q : ReqD => q.job.name.toList) e))]; simp [h1]
  by_cases h2 : j1 = j1'
  case neg => rw [NO.out (fun e => h2 (congrArg (fun q : ReqD => q.job.prio) e))]; simp [h2]
  by_cases h3 : j2 = j2'
  case neg => rw [NO.out (fun e => h3 (congrArg (fun q : ReqD => q.job.need) e))]; simp [h3]
  by_cases h4 : j3 = j3'
  case neg => rw [NO.out (fun e => h4 (congrArg (fun q : ReqD => q.job.tries) e))]; simp [h4]
  by_cases h5 : j4.toList = j4'.toList
  case neg => rw [NO.out (fun e => h5 (congrArg (fun q : ReqD => q.job.tag.toList) e))]; simp [h5]
  by_cases h6 : n0.toList = n0'.toList
  case neg => rw [NO.out (fun e => h6 (congrArg (fun q : ReqD => q.node.name.toList) e))]; simp [h6]
  by_cases h7 : n1 = n1'
  case neg => rw [NO.out (fun e => h7 (congrArg (fun q : ReqD => q.node.room) e))]; simp [h7]
  by_cases h8 : n2.toList = n2'.toList
  case neg => rw [NO.out (fun e => h8 (congrArg (fun q : ReqD => q.node.zone.toList) e))]; simp [h8]
  by_cases h9 : l0.toList = l0'.toList
  case neg => rw [NO.out (fun e => h9 (congrArg (fun q : ReqD => q.lease.job.toList) e))]; simp [h9]
  by_cases h10 : l1.toList = l1'.toList
  case neg => rw [NO.out (fun e => h10 (congrArg (fun q : ReqD => q.lease.node.toList) e))]; simp [h10]
  by_cases h11 : l2 = l2'
  case neg => rw [NO.out (fun e => h11 (congrArg (fun q : ReqD => q.lease.til) e))]; simp [h11]
  by_cases h12 : nm.toList = nm'.toList
  case neg => rw [NO.out (fun e => h12 (congrArg (fun q : ReqD => q.name.toList) e))]; simp [h12]
  by_cases h13 : n = n'
  case neg => rw [NO.out (fun e => h13 (congrArg (fun q : ReqD => q.n) e))]; simp [h13]
  rw [YES.out (by rw [h0, tl_eq h1, h2, h3, h4, tl_eq h5, tl_eq h6, h7, tl_eq h8, tl_eq h9, tl_eq h10, h11, tl_eq h12, h13])]
  simp [h0, h1, h2, h3, h4, h5, h6, h7, h8, h9, h10, h11, h12, h13]
end Go.Proofs.YthpgkfonbmffdaaGreatDoor
