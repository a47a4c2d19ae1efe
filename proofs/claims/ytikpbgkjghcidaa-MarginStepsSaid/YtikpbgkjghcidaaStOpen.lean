import Derived.Test.YtikpbgkjghcidaaRows
import Derived.Test.YtikpbgkjghcidaaMarginMath
import Derived.Test.YtikpbgkjghcidaaSlices
import Derived.Lib.SmallJoins
/- Pens, and slices of steps, that come in. (Written by program: tools/openflat.py.) -/
namespace Go.Proofs.Ytikpbgkjghcidaa
open Go.ChangeShapes Go.WideShapes Go.ChangeAt Go.RowKit Go.Joins
set_option linter.unusedVariables false
set_option linter.unusedSimpArgs false
theorem cellsOne13 : Try.prog.cellsOf 3 = 1 := by kernel_rfl
section
variable {H : Type} {enc : TypeId × Value → H} {W : World}
theorem trod_flat13 {fs : Array Field} {t : TypeId} {fuel : Nat} {cs : List Value} {x : DataW H × List MemPlace} (ht : Try.prog.underlying t = some (.struct fs)) (h : DataW.trod enc Try.prog W 0 (fun _ => true) true fuel t cs = some x) :
    cs.length = Try.prog.cellsOf t ∧ ∃ n, ∀ (i : Nat) (f : Field), fs[i]? = some f → ∃ y, DataW.trod enc Try.prog W 0 (fun _ => true) true n f.type ((cs.drop f.offset).take (Try.prog.cellsOf f.type)) = some y := by
  obtain ⟨xs, n, _, _, hl, hlen, hf⟩ := DataW.trod_struct ht h
  refine ⟨hl, n, fun i f hi => ?_⟩
  have hlt : i < xs.length := by rw [hlen]; exact (Array.getElem?_eq_some_iff.1 hi).1
  exact ⟨xs[i], by rw [hf i f hi, List.getElem?_eq_getElem hlt]⟩
theorem trod_st {fuel : Nat} {cs : List Value} {x : DataW H × List MemPlace} (h : DataW.trod enc Try.prog W 0 (fun _ => true) true fuel 33 cs = some x) : ∃ a0 a1 a2 : Int, cs = [.int .i64 a0, .int .i64 a1, .int .i64 a2] ∧ (Lit.int .i64 a0).wf = true ∧ (Lit.int .i64 a1).wf = true ∧ (Lit.int .i64 a2).wf = true := by
  obtain ⟨hl, n, hf⟩ := trod_flat13 Try.underlying33 h
  have hc : Try.prog.cellsOf 33 = 3 := by kernel_rfl
  rw [hc] at hl
  match cs, hl with
  | [x0, x1, x2], _ =>
    obtain ⟨y0, h0⟩ := hf 0 _ rfl
    simp only [List.getElem_toArray, List.getElem_cons_zero, List.getElem_cons_succ, cellsOne13] at h0
    obtain ⟨a0, e0, _, k0⟩ := DataW.trod_int Try.underlying3 h0
    simp at e0
    subst e0
    obtain ⟨y1, h1⟩ := hf 1 _ rfl
    simp only [List.getElem_toArray, List.getElem_cons_zero, List.getElem_cons_succ, cellsOne13] at h1
    obtain ⟨a1, e1, _, k1⟩ := DataW.trod_int Try.underlying3 h1
    simp at e1
    subst e1
    obtain ⟨y2, h2⟩ := hf 2 _ rfl
    simp only [List.getElem_toArray, List.getElem_cons_zero, List.getElem_cons_succ, cellsOne13] at h2
    obtain ⟨a2, e2, _, k2⟩ := DataW.trod_int Try.underlying3 h2
    simp at e2
    subst e2
    exact ⟨a0, a1, a2, rfl, k0, k1, k2⟩
theorem open_st {base : Nat} {v : Value} {d : DataW H} {p : List MemPlace} (hv : Value.okWide Try.prog W .any base 33 v) (h : DataW.Trod enc Try.prog W 0 (fun _ => true) true 33 v d p) :
    ∃ a0 a1 a2 : Int, v = .agg #[.int .i64 a0, .int .i64 a1, .int .i64 a2] ∧ (Lit.int .i64 a0).wf = true ∧ (Lit.int .i64 a1).wf = true ∧ (Lit.int .i64 a2).wf = true := by
  obtain ⟨cs, rfl, hsz⟩ := okWide_struct Try.underlying33 hv
  obtain ⟨fuel, hf⟩ := h
  obtain ⟨a0, a1, a2, hcs, hw⟩ := trod_st (by simpa [Value.cells] using hf)
  refine ⟨a0, a1, a2, ?_, hw⟩
  congr 1
  apply Array.ext'
  simpa using hcs
theorem open_sts {base : Nat} {v : Value} {d : DataW H} {p : List MemPlace} (hv : Value.okWide Try.prog W .any base 24 v) (h : DataW.Trod enc Try.prog W 0 (fun _ => true) true 24 v d p) :
    ∃ A n c zs, v = .slice A n c ∧ n ≤ c ∧ c ≤ maxLen ∧ Rows 3 encSt W A n zs ∧ ∀ z ∈ zs, ∀ u ∈ encSt z, ∃ a : Int, u = .int .i64 a ∧ (Lit.int .i64 a).wf = true := by
  refine open_rows encSt (fun z => ∀ u ∈ encSt z, ∃ a : Int, u = .int .i64 a ∧ (Lit.int .i64 a).wf = true) Try.underlying24 (by kernel_rfl) (by decide) encSt_len ?_ hv h
  intro fuel cs y hy
  obtain ⟨a0, a1, a2, rfl, k0, k1, k2⟩ := trod_st hy
  refine ⟨⟨a0, a1, a2⟩, rfl, fun u hu => ?_⟩
  simp only [encSt, List.mem_cons, List.not_mem_nil, or_false] at hu
  rcases hu with rfl | rfl | rfl
  · exact ⟨_, rfl, k0⟩
  · exact ⟨_, rfl, k1⟩
  · exact ⟨_, rfl, k2⟩
theorem trod_pn {fuel : Nat} {cs : List Value} {x : DataW H × List MemPlace} (h : DataW.trod enc Try.prog W 0 (fun _ => true) true fuel 23 cs = some x) : ∃ a0 a1 : Int, cs = [.int .i64 a0, .int .i64 a1] ∧ (Lit.int .i64 a0).wf = true ∧ (Lit.int .i64 a1).wf = true := by
  obtain ⟨hl, n, hf⟩ := trod_flat13 Try.underlying23 h
  have hc : Try.prog.cellsOf 23 = 2 := by kernel_rfl
  rw [hc] at hl
  match cs, hl with
  | [x0, x1], _ =>
    obtain ⟨y0, h0⟩ := hf 0 _ rfl
    simp only [List.getElem_toArray, List.getElem_cons_zero, List.getElem_cons_succ, cellsOne13] at h0
    obtain ⟨a0, e0, _, k0⟩ := DataW.trod_int Try.underlying3 h0
    simp at e0
    subst e0
    obtain ⟨y1, h1⟩ := hf 1 _ rfl
    simp only [List.getElem_toArray, List.getElem_cons_zero, List.getElem_cons_succ, cellsOne13] at h1
    obtain ⟨a1, e1, _, k1⟩ := DataW.trod_int Try.underlying3 h1
    simp at e1
    subst e1
    exact ⟨a0, a1, rfl, k0, k1⟩
theorem open_pn {base : Nat} {v : Value} {d : DataW H} {p : List MemPlace} (hv : Value.okWide Try.prog W .any base 23 v) (h : DataW.Trod enc Try.prog W 0 (fun _ => true) true 23 v d p) :
    ∃ a0 a1 : Int, v = .agg #[.int .i64 a0, .int .i64 a1] ∧ (Lit.int .i64 a0).wf = true ∧ (Lit.int .i64 a1).wf = true := by
  obtain ⟨cs, rfl, hsz⟩ := okWide_struct Try.underlying23 hv
  obtain ⟨fuel, hf⟩ := h
  obtain ⟨a0, a1, hcs, hw⟩ := trod_pn (by simpa [Value.cells] using hf)
  refine ⟨a0, a1, ?_, hw⟩
  congr 1
  apply Array.ext'
  simpa using hcs
end
end Go.Proofs.Ytikpbgkjghcidaa
