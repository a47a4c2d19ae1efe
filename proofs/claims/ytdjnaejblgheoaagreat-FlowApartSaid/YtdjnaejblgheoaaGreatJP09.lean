import Derived.Test.YtdjnaejblgheoaaGreatJP01
import Derived.Test.YtdjnaejblgheoaaGreatJP03
/- The document's answers for package valid: rows within rows. (Written by program: tools/drafts/genvrows.py.) -/
namespace Go.Proofs.YtdjnaejblgheoaaGreat
open Go.RowKit
set_option linter.unusedVariables false
set_option linter.unusedSimpArgs false
/-- seg lies in l from k on. -/
def SegV (l : List Nd) (k : Nat) (seg : List Nd) : Prop := ∃ pre post, l = pre ++ (seg ++ post) ∧ pre.length = k
theorem SegV.head {l : List Nd} {k : Nat} {x : Nd} {seg : List Nd} (h : SegV l k (x :: seg)) : l[k]? = some x := by
  obtain ⟨pre, post, rfl, rfl⟩ := h
  simp
theorem SegV.inner {l : List Nd} {k : Nat} {x : Nd} {a b : List Nd} (h : SegV l k (x :: (a ++ b))) : SegV l (k + 1) a := by
  obtain ⟨pre, post, rfl, rfl⟩ := h
  exact ⟨pre ++ [x], b ++ post, by simp, by simp⟩
theorem SegV.rest {l : List Nd} {k : Nat} {x : Nd} {a b : List Nd} (h : SegV l k (x :: (a ++ b))) : SegV l (k + (1 + a.length)) b := by
  obtain ⟨pre, post, rfl, rfl⟩ := h
  exact ⟨pre ++ x :: a, post, by simp, by simp; omega⟩
theorem SegV.len {l : List Nd} {k : Nat} {seg : List Nd} (h : SegV l k seg) : k + seg.length ≤ l.length := by
  obtain ⟨pre, post, rfl, rfl⟩ := h
  simp
theorem SegV.all (l : List Nd) : SegV l 0 l := ⟨[], [], by simp, rfl⟩
end Go.Proofs.YtdjnaejblgheoaaGreat
