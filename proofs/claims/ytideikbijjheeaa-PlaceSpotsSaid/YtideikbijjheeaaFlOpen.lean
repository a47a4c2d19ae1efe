import Derived.Test.YtideikbijjheeaaRows
import Derived.Test.YtideikbijjheeaaBandsMath
import Derived.Test.YtideikbijjheeaaSlices
import Derived.Lib.SmallJoins
/- Floats and spans, and slices of floats, that come in. (Written by program: tools/openflat.py.) -/
namespace Go.Proofs.Ytideikbijjheeaa
open Go.ChangeShapes Go.WideShapes Go.ChangeAt Go.RowKit Go.Joins
set_option linter.unusedVariables false
set_option linter.unusedSimpArgs false
theorem cellsOne : Try.prog.cellsOf 3 = 1 := by kernel_rfl
section
variable {H : Type} {enc : TypeId × Value → H} {W : World}
theorem trod_flat {fs : Array Field} {t : TypeId} {fuel : Nat} {cs : List Value} {x : DataW H × List MemPlace} (ht : Try.prog.underlying t = some (.struct fs)) (h : DataW.trod enc Try.prog W 0 (fun _ => true) true fuel t cs = some x) :
    cs.length = Try.prog.cellsOf t ∧ ∃ n, ∀ (i : Nat) (f : Field), fs[i]? = some f → ∃ y, DataW.trod enc Try.prog W 0 (fun _ => true) true n f.type ((cs.drop f.offset).take (Try.prog.cellsOf f.type)) = some y := by
  obtain ⟨xs, n, _, _, hl, hlen, hf⟩ := DataW.trod_struct ht h
  refine ⟨hl, n, fun i f hi => ?_⟩
  have hlt : i < xs.length := by rw [hlen]; exact (Array.getElem?_eq_some_iff.1 hi).1
  exact ⟨xs[i], by rw [hf i f hi, List.getElem?_eq_getElem hlt]⟩
theorem trod_fl {fuel : Nat} {cs : List Value} {x : DataW H × List MemPlace} (h : DataW.trod enc Try.prog W 0 (fun _ => true) true fuel 24 cs = some x) : ∃ a0 a1 a2 a3 a4 a5 a6 : Int, cs = [.int .i64 a0, .int .i64 a1, .int .i64 a2, .int .i64 a3, .int .i64 a4, .int .i64 a5, .int .i64 a6] ∧ (Lit.int .i64 a0).wf = true ∧ (Lit.int .i64 a1).wf = true ∧ (Lit.int .i64 a2).wf = true ∧ (Lit.int .i64 a3).wf = true ∧ (Lit.int .i64 a4).wf = true ∧ (Lit.int .i64 a5).wf = true ∧ (Lit.int .i64 a6).wf = true := by
  obtain ⟨hl, n, hf⟩ := trod_flat Try.underlying24 h
  have hc : Try.prog.cellsOf 24 = 7 := by kernel_rfl
  rw [hc] at hl
  match cs, hl with
  | [x0, x1, x2, x3, x4, x5, x6], _ =>
    obtain ⟨y0, h0⟩ := hf 0 _ rfl
    simp only [List.getElem_toArray, List.getElem_cons_zero, List.getElem_cons_succ, cellsOne] at h0
    obtain ⟨a0, e0, _, k0⟩ := DataW.trod_int Try.underlying3 h0
    simp at e0
    subst e0
    obtain ⟨y1, h1⟩ := hf 1 _ rfl
    simp only [List.getElem_toArray, List.getElem_cons_zero, List.getElem_cons_succ, cellsOne] at h1
    obtain ⟨a1, e1, _, k1⟩ := DataW.trod_int Try.underlying3 h1
    simp at e1
    subst e1
    obtain ⟨y2, h2⟩ := hf 2 _ rfl
    simp only [List.getElem_toArray, List.getElem_cons_zero, List.getElem_cons_succ, cellsOne] at h2
    obtain ⟨a2, e2, _, k2⟩ := DataW.trod_int Try.underlying3 h2
    simp at e2
    subst e2
    obtain ⟨y3, h3⟩ := hf 3 _ rfl
    simp only [List.getElem_toArray, List.getElem_cons_zero, List.getElem_cons_succ, cellsOne] at h3
    obtain ⟨a3, e3, _, k3⟩ := DataW.trod_int Try.underlying3 h3
    simp at e3
    subst e3
    obtain ⟨y4, h4⟩ := hf 4 _ rfl
    simp only [List.getElem_toArray, List.getElem_cons_zero, List.getElem_cons_succ, cellsOne] at h4
    obtain ⟨a4, e4, _, k4⟩ := DataW.trod_int Try.underlying3 h4
    simp at e4
    subst e4
    obtain ⟨y5, h5⟩ := hf 5 _ rfl
    simp only [List.getElem_toArray, List.getElem_cons_zero, List.getElem_cons_succ, cellsOne] at h5
    obtain ⟨a5, e5, _, k5⟩ := DataW.trod_int Try.underlying3 h5
    simp at e5
    subst e5
    obtain ⟨y6, h6⟩ := hf 6 _ rfl
    simp only [List.getElem_toArray, List.getElem_cons_zero, List.getElem_cons_succ, cellsOne] at h6
    obtain ⟨a6, e6, _, k6⟩ := DataW.trod_int Try.underlying3 h6
    simp at e6
    subst e6
    exact ⟨a0, a1, a2, a3, a4, a5, a6, rfl, k0, k1, k2, k3, k4, k5, k6⟩
theorem open_fl {base : Nat} {v : Value} {d : DataW H} {p : List MemPlace} (hv : Value.okWide Try.prog W .any base 24 v) (h : DataW.Trod enc Try.prog W 0 (fun _ => true) true 24 v d p) :
    ∃ a0 a1 a2 a3 a4 a5 a6 : Int, v = .agg #[.int .i64 a0, .int .i64 a1, .int .i64 a2, .int .i64 a3, .int .i64 a4, .int .i64 a5, .int .i64 a6] ∧ (Lit.int .i64 a0).wf = true ∧ (Lit.int .i64 a1).wf = true ∧ (Lit.int .i64 a2).wf = true ∧ (Lit.int .i64 a3).wf = true ∧ (Lit.int .i64 a4).wf = true ∧ (Lit.int .i64 a5).wf = true ∧ (Lit.int .i64 a6).wf = true := by
  obtain ⟨cs, rfl, hsz⟩ := okWide_struct Try.underlying24 hv
  obtain ⟨fuel, hf⟩ := h
  obtain ⟨a0, a1, a2, a3, a4, a5, a6, hcs, hw⟩ := trod_fl (by simpa [Value.cells] using hf)
  refine ⟨a0, a1, a2, a3, a4, a5, a6, ?_, hw⟩
  congr 1
  apply Array.ext'
  simpa using hcs
theorem open_fls {base : Nat} {v : Value} {d : DataW H} {p : List MemPlace} (hv : Value.okWide Try.prog W .any base 22 v) (h : DataW.Trod enc Try.prog W 0 (fun _ => true) true 22 v d p) :
    ∃ A n c zs, v = .slice A n c ∧ n ≤ c ∧ c ≤ maxLen ∧ Rows 7 encFl W A n zs ∧ ∀ z ∈ zs, ∀ u ∈ encFl z, ∃ a : Int, u = .int .i64 a ∧ (Lit.int .i64 a).wf = true := by
  refine open_rows encFl (fun z => ∀ u ∈ encFl z, ∃ a : Int, u = .int .i64 a ∧ (Lit.int .i64 a).wf = true) Try.underlying22 (by kernel_rfl) (by decide) encFl_len ?_ hv h
  intro fuel cs y hy
  obtain ⟨a0, a1, a2, a3, a4, a5, a6, rfl, k0, k1, k2, k3, k4, k5, k6⟩ := trod_fl hy
  refine ⟨⟨a0, a1, a2, a3, a4, a5, a6⟩, rfl, fun u hu => ?_⟩
  simp only [encFl, List.mem_cons, List.not_mem_nil, or_false] at hu
  rcases hu with rfl | rfl | rfl | rfl | rfl | rfl | rfl
  · exact ⟨_, rfl, k0⟩
  · exact ⟨_, rfl, k1⟩
  · exact ⟨_, rfl, k2⟩
  · exact ⟨_, rfl, k3⟩
  · exact ⟨_, rfl, k4⟩
  · exact ⟨_, rfl, k5⟩
  · exact ⟨_, rfl, k6⟩
theorem trod_spn {fuel : Nat} {cs : List Value} {x : DataW H × List MemPlace} (h : DataW.trod enc Try.prog W 0 (fun _ => true) true fuel 26 cs = some x) : ∃ a0 a1 : Int, cs = [.int .i64 a0, .int .i64 a1] ∧ (Lit.int .i64 a0).wf = true ∧ (Lit.int .i64 a1).wf = true := by
  obtain ⟨hl, n, hf⟩ := trod_flat Try.underlying26 h
  have hc : Try.prog.cellsOf 26 = 2 := by kernel_rfl
  rw [hc] at hl
  match cs, hl with
  | [x0, x1], _ =>
    obtain ⟨y0, h0⟩ := hf 0 _ rfl
    simp only [List.getElem_toArray, List.getElem_cons_zero, List.getElem_cons_succ, cellsOne] at h0
    obtain ⟨a0, e0, _, k0⟩ := DataW.trod_int Try.underlying3 h0
    simp at e0
    subst e0
    obtain ⟨y1, h1⟩ := hf 1 _ rfl
    simp only [List.getElem_toArray, List.getElem_cons_zero, List.getElem_cons_succ, cellsOne] at h1
    obtain ⟨a1, e1, _, k1⟩ := DataW.trod_int Try.underlying3 h1
    simp at e1
    subst e1
    exact ⟨a0, a1, rfl, k0, k1⟩
theorem open_spn {base : Nat} {v : Value} {d : DataW H} {p : List MemPlace} (hv : Value.okWide Try.prog W .any base 26 v) (h : DataW.Trod enc Try.prog W 0 (fun _ => true) true 26 v d p) :
    ∃ a0 a1 : Int, v = .agg #[.int .i64 a0, .int .i64 a1] ∧ (Lit.int .i64 a0).wf = true ∧ (Lit.int .i64 a1).wf = true := by
  obtain ⟨cs, rfl, hsz⟩ := okWide_struct Try.underlying26 hv
  obtain ⟨fuel, hf⟩ := h
  obtain ⟨a0, a1, hcs, hw⟩ := trod_spn (by simpa [Value.cells] using hf)
  refine ⟨a0, a1, ?_, hw⟩
  congr 1
  apply Array.ext'
  simpa using hcs
end
end Go.Proofs.Ytideikbijjheeaa
