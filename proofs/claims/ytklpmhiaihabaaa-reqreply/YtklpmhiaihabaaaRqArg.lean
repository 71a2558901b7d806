/- A reply that came in by value. -/
import Derived.Test.YtklpmhiaihabaaaRqPlain
import Derived.Test.YtklpmhiaihabaaaRows
import Derived.Lib.SmallJoins
import Derived.OpenShut
import Derived.ShutString
import Derived.SizedLaws
import Derived.ChangeOld
namespace Go.Proofs.Ytklpmhiaihabaaa
open Go.ChangeShapes Go.WideShapes Go.RowKit Go.Joins

def wRep (r : RepD) : Prop := (Lit.int .i64 r.code).wf = true ∧ (Lit.int .i64 r.rev).wf = true
section
variable {H : Type} {enc : TypeId × Value → H} {w : World} {base : Nat} {spare : Nat → Bool} {held : Bool}
set_option maxRecDepth 100000 in
theorem open_reply {r : Reach} {b0 : Nat} {v : Value} {d : DataW H} {ps : List MemPlace} (hv : Value.okWide Try.prog w r b0 39 v) (h : DataW.Trod enc Try.prog w base spare held 39 v d ps) :
    ∃ x : RepD, v = .agg #[.int .i64 x.code, .int .i64 x.rev] ∧ d = .agg [.lit (.int .i64 x.code), .lit (.int .i64 x.rev)] ∧ ps = [] ∧ wRep x := by
  obtain ⟨v0, v1, y0, y1, n, rfl, rfl, rfl, t0, t1⟩ := open_agg2 Try.underlying39 (by kernel_rfl) (by kernel_rfl) hv h
  obtain ⟨a, e0, rfl, w0⟩ := DataW.trod_int Try.underlying30 t0
  obtain ⟨b, e1, rfl, w1⟩ := DataW.trod_int Try.underlying3 t1
  simp only [List.cons.injEq, and_true] at e0 e1
  subst e0 e1
  exact ⟨⟨a, b⟩, rfl, rfl, rfl, w0, w1⟩
set_option maxRecDepth 100000 in
theorem shut_reply {x : RepD} (h : wRep x) :
    DataW.Trod enc Try.prog w base spare held 39 (.agg #[.int .i64 x.code, .int .i64 x.rev]) (.agg [.lit (.int .i64 x.code), .lit (.int .i64 x.rev)]) [] :=
  shut_agg2 (y0 := (.lit (.int .i64 x.code), [])) (y1 := (.lit (.int .i64 x.rev), [])) Try.underlying39 (by kernel_rfl) (by kernel_rfl)
    ⟨1, by simp [DataW.trod, Try.underlying30, h.1]⟩ ⟨1, by simp [DataW.trod, Try.underlying3, h.2]⟩
end
end Go.Proofs.Ytklpmhiaihabaaa
