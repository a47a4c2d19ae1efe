import Derived.Test.YtkbpiekmphcdnaaRows
import Derived.Test.YtkbpiekmphcdnaaSpanMath2
import Derived.Test.YtkbpiekmphcdnaaSpanSort
import Derived.Test.YtkbpiekmphcdnaaSlices
import Derived.Lib.SmallJoins
/- Spans, and slices of spans, that come in. -/
namespace Go.Proofs.Ytkbpiekmphcdnaa
open Go.ChangeShapes Go.WideShapes Go.ChangeAt Go.RowKit Go.Joins
set_option linter.unusedVariables false
set_option linter.unusedSimpArgs false
theorem cellsSpan : Try.prog.cellsOf 23 = 2 := by kernel_rfl
section
variable {H : Type} {enc : TypeId × Value → H} {W : World}
theorem open_span {base : Nat} {v : Value} {d : DataW H} {p : List MemPlace} (hv : Value.okWide Try.prog W .any base 23 v) (h : DataW.Trod enc Try.prog W 0 (fun _ => true) true 23 v d p) :
    ∃ a b : Int, v = .agg #[.int .i64 a, .int .i64 b] ∧ (Lit.int .i64 a).wf = true ∧ (Lit.int .i64 b).wf = true := by
  obtain ⟨x, y, y0, y1, m, rfl, _, _, t0, t1⟩ := open_agg2 Try.underlying23 (by kernel_rfl) cellsSpan hv h
  obtain ⟨a, e0, _, k0⟩ := DataW.trod_int Try.underlying3 t0
  obtain ⟨b, e1, _, k1⟩ := DataW.trod_int Try.underlying3 t1
  injection e0 with e0
  injection e1 with e1
  subst e0 e1
  exact ⟨a, b, rfl, k0, k1⟩
theorem open_spans {base : Nat} {v : Value} {d : DataW H} {p : List MemPlace} (hv : Value.okWide Try.prog W .any base 31 v) (h : DataW.Trod enc Try.prog W 0 (fun _ => true) true 31 v d p) :
    ∃ A n c zs, v = .slice A n c ∧ n ≤ c ∧ c ≤ maxLen ∧ Rows 2 encS W A n zs ∧ ∀ z ∈ zs, (Lit.int .i64 z.1).wf = true ∧ (Lit.int .i64 z.2).wf = true := by
  refine open_rows encS (fun z => (Lit.int .i64 z.1).wf = true ∧ (Lit.int .i64 z.2).wf = true) Try.underlying31 cellsSpan (by decide) encS_len ?_ hv h
  intro fuel cs y hy
  obtain ⟨y0, y1, n, _, hl, h0, h1⟩ := trod_struct2 Try.underlying23 hy
  rw [cellsSpan] at hl
  match cs, hl with
  | [x0, x1], _ =>
    have c3 : Try.prog.cellsOf 3 = 1 := by kernel_rfl
    simp only [c3] at h0 h1
    obtain ⟨a, e0, _, k0⟩ := DataW.trod_int Try.underlying3 h0
    obtain ⟨b, e1, _, k1⟩ := DataW.trod_int Try.underlying3 h1
    simp at e0 e1
    subst e0 e1
    exact ⟨(a, b), rfl, k0, k1⟩
end
end Go.Proofs.Ytkbpiekmphcdnaa
