import Derived.Test.YtiekgafopalfmaaGreatDoorPPkSt2
namespace Go.Proofs.YtiekgafopalfmaaGreatDoor
open Go.RowKit
theorem badAt_j (w:World):JobsAt w none []:=fun i h=>by simp at h
theorem badAt_n (w:World):NodesAt w none []:=fun i h=>by simp at h
theorem badAt_l (w:World):LeasesAt w none []:=fun i h=>by simp at h
theorem bad_w:wState ⟨-1,[],[],[]⟩:=⟨show(Lit.int .i64 (-1)).wf=true by decide,fun x h=>(by cases h),fun x h=>(by cases h),fun x h=>(by cases h)⟩
end Go.Proofs.YtiekgafopalfmaaGreatDoor
