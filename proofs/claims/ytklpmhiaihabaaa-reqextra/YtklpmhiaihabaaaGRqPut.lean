/- Fourteen cells of a block stored, one after another. -/
import Derived.Test.YtklpmhiaihabaaaGRqRep
namespace Go.Proofs.Ytklpmhiaihabaaa
open Go.RowKit Go.Lib

theorem obj_put14 {w : World} {b : Nat} {a0 a1 a2 a3 a4 a5 a6 a7 a8 a9 a10 a11 a12 a13 : Value} {t : TypeId} (h : ObjAt b #[a0, a1, a2, a3, a4, a5, a6, a7, a8, a9, a10, a11, a12, a13] t w) (x0 x1 x2 x3 x4 x5 x6 x7 x8 x9 x10 x11 x12 x13 : Value) : ObjAt b #[x0, x1, x2, x3, x4, x5, x6, x7, x8, x9, x10, x11, x12, x13] t ((((((((((((((w.setCell ⟨b, 0, none⟩ x0).setCell ⟨b, 1, none⟩ x1).setCell ⟨b, 2, none⟩ x2).setCell ⟨b, 3, none⟩ x3).setCell ⟨b, 4, none⟩ x4).setCell ⟨b, 5, none⟩ x5).setCell ⟨b, 6, none⟩ x6).setCell ⟨b, 7, none⟩ x7).setCell ⟨b, 8, none⟩ x8).setCell ⟨b, 9, none⟩ x9).setCell ⟨b, 10, none⟩ x10).setCell ⟨b, 11, none⟩ x11).setCell ⟨b, 12, none⟩ x12).setCell ⟨b, 13, none⟩ x13) := by
  have h0 : ObjAt b #[x0, a1, a2, a3, a4, a5, a6, a7, a8, a9, a10, a11, a12, a13] t _ := objAt_set h 0 x0
  have h1 : ObjAt b #[x0, x1, a2, a3, a4, a5, a6, a7, a8, a9, a10, a11, a12, a13] t _ := objAt_set h0 1 x1
  have h2 : ObjAt b #[x0, x1, x2, a3, a4, a5, a6, a7, a8, a9, a10, a11, a12, a13] t _ := objAt_set h1 2 x2
  have h3 : ObjAt b #[x0, x1, x2, x3, a4, a5, a6, a7, a8, a9, a10, a11, a12, a13] t _ := objAt_set h2 3 x3
  have h4 : ObjAt b #[x0, x1, x2, x3, x4, a5, a6, a7, a8, a9, a10, a11, a12, a13] t _ := objAt_set h3 4 x4
  have h5 : ObjAt b #[x0, x1, x2, x3, x4, x5, a6, a7, a8, a9, a10, a11, a12, a13] t _ := objAt_set h4 5 x5
  have h6 : ObjAt b #[x0, x1, x2, x3, x4, x5, x6, a7, a8, a9, a10, a11, a12, a13] t _ := objAt_set h5 6 x6
  have h7 : ObjAt b #[x0, x1, x2, x3, x4, x5, x6, x7, a8, a9, a10, a11, a12, a13] t _ := objAt_set h6 7 x7
  have h8 : ObjAt b #[x0, x1, x2, x3, x4, x5, x6, x7, x8, a9, a10, a11, a12, a13] t _ := objAt_set h7 8 x8
  have h9 : ObjAt b #[x0, x1, x2, x3, x4, x5, x6, x7, x8, x9, a10, a11, a12, a13] t _ := objAt_set h8 9 x9
  have h10 : ObjAt b #[x0, x1, x2, x3, x4, x5, x6, x7, x8, x9, x10, a11, a12, a13] t _ := objAt_set h9 10 x10
  have h11 : ObjAt b #[x0, x1, x2, x3, x4, x5, x6, x7, x8, x9, x10, x11, a12, a13] t _ := objAt_set h10 11 x11
  have h12 : ObjAt b #[x0, x1, x2, x3, x4, x5, x6, x7, x8, x9, x10, x11, x12, a13] t _ := objAt_set h11 12 x12
  exact objAt_set h12 13 x13
theorem below_put14 {B b : Nat} {w0 w : World} (h : Below B w0 w) (hb : B ≤ b) (x0 x1 x2 x3 x4 x5 x6 x7 x8 x9 x10 x11 x12 x13 : Value) : Below B w0 ((((((((((((((w.setCell ⟨b, 0, none⟩ x0).setCell ⟨b, 1, none⟩ x1).setCell ⟨b, 2, none⟩ x2).setCell ⟨b, 3, none⟩ x3).setCell ⟨b, 4, none⟩ x4).setCell ⟨b, 5, none⟩ x5).setCell ⟨b, 6, none⟩ x6).setCell ⟨b, 7, none⟩ x7).setCell ⟨b, 8, none⟩ x8).setCell ⟨b, 9, none⟩ x9).setCell ⟨b, 10, none⟩ x10).setCell ⟨b, 11, none⟩ x11).setCell ⟨b, 12, none⟩ x12).setCell ⟨b, 13, none⟩ x13) := by
  have h0 := h.setCell (p := ⟨b, 0, none⟩) hb x0
  have h1 := h0.setCell (p := ⟨b, 1, none⟩) hb x1
  have h2 := h1.setCell (p := ⟨b, 2, none⟩) hb x2
  have h3 := h2.setCell (p := ⟨b, 3, none⟩) hb x3
  have h4 := h3.setCell (p := ⟨b, 4, none⟩) hb x4
  have h5 := h4.setCell (p := ⟨b, 5, none⟩) hb x5
  have h6 := h5.setCell (p := ⟨b, 6, none⟩) hb x6
  have h7 := h6.setCell (p := ⟨b, 7, none⟩) hb x7
  have h8 := h7.setCell (p := ⟨b, 8, none⟩) hb x8
  have h9 := h8.setCell (p := ⟨b, 9, none⟩) hb x9
  have h10 := h9.setCell (p := ⟨b, 10, none⟩) hb x10
  have h11 := h10.setCell (p := ⟨b, 11, none⟩) hb x11
  have h12 := h11.setCell (p := ⟨b, 12, none⟩) hb x12
  exact h12.setCell (p := ⟨b, 13, none⟩) hb x13
theorem pairSt_put14 {b : Nat} {v : Int} {t : TypeId} {m : M} {vs : Array Value} {a0 a1 a2 a3 a4 a5 a6 a7 a8 a9 a10 a11 a12 a13 : Value} {w0 w : World} (h : PairSt b v t m vs #[a0, a1, a2, a3, a4, a5, a6, a7, a8, a9, a10, a11, a12, a13] w0 w) (x0 x1 x2 x3 x4 x5 x6 x7 x8 x9 x10 x11 x12 x13 : Value) : PairSt b v t m vs #[x0, x1, x2, x3, x4, x5, x6, x7, x8, x9, x10, x11, x12, x13] w0 ((((((((((((((w.setCell ⟨w0.heap.size + 1, 0, none⟩ x0).setCell ⟨w0.heap.size + 1, 1, none⟩ x1).setCell ⟨w0.heap.size + 1, 2, none⟩ x2).setCell ⟨w0.heap.size + 1, 3, none⟩ x3).setCell ⟨w0.heap.size + 1, 4, none⟩ x4).setCell ⟨w0.heap.size + 1, 5, none⟩ x5).setCell ⟨w0.heap.size + 1, 6, none⟩ x6).setCell ⟨w0.heap.size + 1, 7, none⟩ x7).setCell ⟨w0.heap.size + 1, 8, none⟩ x8).setCell ⟨w0.heap.size + 1, 9, none⟩ x9).setCell ⟨w0.heap.size + 1, 10, none⟩ x10).setCell ⟨w0.heap.size + 1, 11, none⟩ x11).setCell ⟨w0.heap.size + 1, 12, none⟩ x12).setCell ⟨w0.heap.size + 1, 13, none⟩ x13) := by
  have h0 : PairSt b v t m vs #[x0, a1, a2, a3, a4, a5, a6, a7, a8, a9, a10, a11, a12, a13] w0 _ := pairSt_back h 0 x0
  have h1 : PairSt b v t m vs #[x0, x1, a2, a3, a4, a5, a6, a7, a8, a9, a10, a11, a12, a13] w0 _ := pairSt_back h0 1 x1
  have h2 : PairSt b v t m vs #[x0, x1, x2, a3, a4, a5, a6, a7, a8, a9, a10, a11, a12, a13] w0 _ := pairSt_back h1 2 x2
  have h3 : PairSt b v t m vs #[x0, x1, x2, x3, a4, a5, a6, a7, a8, a9, a10, a11, a12, a13] w0 _ := pairSt_back h2 3 x3
  have h4 : PairSt b v t m vs #[x0, x1, x2, x3, x4, a5, a6, a7, a8, a9, a10, a11, a12, a13] w0 _ := pairSt_back h3 4 x4
  have h5 : PairSt b v t m vs #[x0, x1, x2, x3, x4, x5, a6, a7, a8, a9, a10, a11, a12, a13] w0 _ := pairSt_back h4 5 x5
  have h6 : PairSt b v t m vs #[x0, x1, x2, x3, x4, x5, x6, a7, a8, a9, a10, a11, a12, a13] w0 _ := pairSt_back h5 6 x6
  have h7 : PairSt b v t m vs #[x0, x1, x2, x3, x4, x5, x6, x7, a8, a9, a10, a11, a12, a13] w0 _ := pairSt_back h6 7 x7
  have h8 : PairSt b v t m vs #[x0, x1, x2, x3, x4, x5, x6, x7, x8, a9, a10, a11, a12, a13] w0 _ := pairSt_back h7 8 x8
  have h9 : PairSt b v t m vs #[x0, x1, x2, x3, x4, x5, x6, x7, x8, x9, a10, a11, a12, a13] w0 _ := pairSt_back h8 9 x9
  have h10 : PairSt b v t m vs #[x0, x1, x2, x3, x4, x5, x6, x7, x8, x9, x10, a11, a12, a13] w0 _ := pairSt_back h9 10 x10
  have h11 : PairSt b v t m vs #[x0, x1, x2, x3, x4, x5, x6, x7, x8, x9, x10, x11, a12, a13] w0 _ := pairSt_back h10 11 x11
  have h12 : PairSt b v t m vs #[x0, x1, x2, x3, x4, x5, x6, x7, x8, x9, x10, x11, x12, a13] w0 _ := pairSt_back h11 12 x12
  exact pairSt_back h12 13 x13
theorem pairSt_drew {b : Nat} {v : Int} {t : TypeId} {m : M} {vs rs : Array Value} {w0 w : World} (h : PairSt b v t m vs rs w0 w) : PairSt b v t m vs rs w0 w.drew :=
  ⟨code_drew h.1, objAt_drew h.2.1, objAt_drew h.2.2.1, keep_trans h.2.2.2.1 (keep_drew b w), h.2.2.2.2.1, h.2.2.2.2.2⟩
end Go.Proofs.Ytklpmhiaihabaaa
