import Derived.Test.YtkbpiekmphcdnaaSpanPairs
import Derived.Test.YtkbpiekmphcdnaaSpanRowsW
/- What SpanNumbers leans on: whether a number is in a span, in one of a row, in what is left. -/
namespace Go.Proofs.Ytkbpiekmphcdnaa
open Go.RowKit
set_option linter.unusedVariables false
set_option linter.unusedSimpArgs false
def hasB (s : Sp) (n : Int) : Bool := decide (hasS s n)
def anyB (l : List Sp) (n : Int) : Bool := l.any fun x => hasB x n
theorem hasB_iff {s : Sp} {n : Int} : hasB s n = true ↔ hasS s n := by unfold hasB; simp
theorem anyB_iff {l : List Sp} {n : Int} : anyB l n = true ↔ inL l n := by
  unfold anyB inL; simp only [List.any_eq_true, hasB_iff]
theorem anyB_snoc {l : List Sp} {k : Nat} {x : Sp} {n : Int} (hx : l[k]? = some x) : anyB (l.take (k + 1)) n = (anyB (l.take k) n || hasB x n) := by
  rw [take_snoc hx]; unfold anyB; rw [List.any_append]; simp
theorem hasB_meet (s x : Sp) (n : Int) : hasB (meetS s x) n = (hasB s n && hasB x n) := by
  rw [Bool.eq_iff_iff, Bool.and_eq_true, hasB_iff, hasB_iff, hasB_iff, hasS_meet]
theorem less_hasB (s : Sp) (l : List Sp) (n : Int) : anyB (lessR s l) n = (hasB s n && !anyB l n) := by
  rw [Bool.eq_iff_iff, Bool.and_eq_true, anyB_iff, hasB_iff, (lessR_spec s l).2 n, Bool.not_eq_true', ← Bool.not_eq_true, anyB_iff]
  exact ⟨fun ⟨h1, h2⟩ => ⟨h1, fun ⟨x, hx, k⟩ => h2 x hx k⟩, fun ⟨h1, h2⟩ => ⟨h1, fun x hx k => h2 ⟨x, hx, k⟩⟩⟩
theorem has_to {a b n : Int} {v : Bool} (h : hasB (a, b) n = v) (w : World) : Calls Try.prog 13 #[.agg #[.int .i64 a, .int .i64 b], .int .i64 n] w fun e w' => e = .returned (.bool v) ∧ Below w.heap.size w w' := by
  have h2 := has_any a b n w
  have e : decide (a ≤ n ∧ n < b) = v := by rw [← h]; exact decide_eq_decide.2 Iff.rfl
  rw [e] at h2; exact h2
theorem less_within {s : Sp} {l : List Sp} {k : Nat} {x : Sp} (hx : (lessR s l)[k]? = some x) : decide (meetS x s = tidyS x) = true := by
  rw [decide_eq_true_eq]
  exact within_of fun n hn => (((lessR_spec s l).2 n).1 ⟨x, List.mem_of_getElem? hx, hn⟩).1
theorem less_some {s : Sp} {l : List Sp} {k : Nat} {x : Sp} (hx : (lessR s l)[k]? = some x) : x.1 < x.2 := (lessR_spec s l).1.1 x (List.mem_of_getElem? hx)
theorem less_next {s : Sp} {l : List Sp} {k : Nat} {x y : Sp} (hx : (lessR s l)[k]? = some x) (hy : (lessR s l)[k + 1]? = some y) : x.2 < y.1 := by
  have h := (lessR_spec s l).1.2
  rw [List.pairwise_iff_getElem] at h
  obtain ⟨h1, e1⟩ := List.getElem?_eq_some_iff.1 hx
  obtain ⟨h2, e2⟩ := List.getElem?_eq_some_iff.1 hy
  have := h k (k + 1) h1 h2 (by omega)
  rw [e1, e2] at this; exact this
end Go.Proofs.Ytkbpiekmphcdnaa
