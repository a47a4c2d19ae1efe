import Derived.Test.YtkbpiekmphcdnaaRows
import Derived.Test.YtkbpiekmphcdnaaRectHull
import Derived.Test.YtkbpiekmphcdnaaSlices
import Derived.Lib.SmallJoins
/- Rectangles, and slices of rectangles, that come in. -/
namespace Go.Proofs.Ytkbpiekmphcdnaa
open Go.ChangeShapes Go.WideShapes Go.ChangeAt Go.RowKit Go.Joins
set_option linter.unusedVariables false
set_option linter.unusedSimpArgs false
theorem cellsRect : Try.prog.cellsOf 41 = 4 := by kernel_rfl
def WfR (r : Rc) : Prop := (Lit.int .i64 r.x).wf = true ∧ (Lit.int .i64 r.y).wf = true ∧ (Lit.int .i64 r.w).wf = true ∧ (Lit.int .i64 r.h).wf = true
section
variable {H : Type} {enc : TypeId × Value → H} {W : World}
theorem open_rect {base : Nat} {v : Value} {d : DataW H} {p : List MemPlace} (hv : Value.okWide Try.prog W .any base 41 v) (h : DataW.Trod enc Try.prog W 0 (fun _ => true) true 41 v d p) :
    ∃ x y w h : Int, v = .agg #[.int .i64 x, .int .i64 y, .int .i64 w, .int .i64 h] ∧ (Lit.int .i64 x).wf = true ∧ (Lit.int .i64 y).wf = true ∧ (Lit.int .i64 w).wf = true ∧ (Lit.int .i64 h).wf = true := by
  obtain ⟨v0, v1, v2, v3, y0, y1, y2, y3, m, rfl, _, _, t0, t1, t2, t3⟩ := open_agg4 Try.underlying41 (by kernel_rfl) cellsRect hv h
  obtain ⟨a, e0, _, k0⟩ := DataW.trod_int Try.underlying3 t0
  obtain ⟨b, e1, _, k1⟩ := DataW.trod_int Try.underlying3 t1
  obtain ⟨c, e2, _, k2⟩ := DataW.trod_int Try.underlying3 t2
  obtain ⟨f, e3, _, k3⟩ := DataW.trod_int Try.underlying3 t3
  injection e0 with e0
  injection e1 with e1
  injection e2 with e2
  injection e3 with e3
  subst e0 e1 e2 e3
  exact ⟨a, b, c, f, rfl, k0, k1, k2, k3⟩
theorem open_rects {base : Nat} {v : Value} {d : DataW H} {p : List MemPlace} (hv : Value.okWide Try.prog W .any base 39 v) (h : DataW.Trod enc Try.prog W 0 (fun _ => true) true 39 v d p) :
    ∃ A n c zs, v = .slice A n c ∧ n ≤ c ∧ c ≤ maxLen ∧ Rows 4 encR W A n zs ∧ ∀ z ∈ zs, WfR z := by
  refine open_rows encR WfR Try.underlying39 cellsRect (by decide) encR_len ?_ hv h
  intro fuel cs y hy
  obtain ⟨y0, y1, y2, y3, n, _, hl, h0, h1, h2, h3⟩ := trod_struct4 Try.underlying41 hy
  rw [cellsRect] at hl
  match cs, hl with
  | [x0, x1, x2, x3], _ =>
    have c3 : Try.prog.cellsOf 3 = 1 := by kernel_rfl
    simp only [c3] at h0 h1 h2 h3
    obtain ⟨a, e0, _, k0⟩ := DataW.trod_int Try.underlying3 h0
    obtain ⟨b, e1, _, k1⟩ := DataW.trod_int Try.underlying3 h1
    obtain ⟨c, e2, _, k2⟩ := DataW.trod_int Try.underlying3 h2
    obtain ⟨f, e3, _, k3⟩ := DataW.trod_int Try.underlying3 h3
    simp at e0 e1 e2 e3
    subst e0 e1 e2 e3
    exact ⟨⟨a, b, c, f⟩, rfl, k0, k1, k2, k3⟩
end
end Go.Proofs.Ytkbpiekmphcdnaa
