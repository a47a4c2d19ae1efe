import Derived.Test.YtdjnaejblgheoaaGreatJP29
import Derived.Test.YtdjnaejblgheoaaGreatJP02
import Derived.Test.YtdjnaejblgheoaaGreatJP34
import Derived.Lib.MinMax
/- The document's answer for package flow: the galley. (Written by program: tools/drafts/genof14.py.) -/
namespace Go.Proofs.YtdjnaejblgheoaaGreat
open Go.RowKit
set_option linter.unusedVariables false
set_option linter.unusedSimpArgs false
/-- a galley, and the error. -/
structure Gal where
  ams : List Am
  fls : List Fl
  high : Int
  err : Int
def galR (L : List Nd) (wd : Int) : Gal := if wd < 1 ∨ maxX < wd then ⟨[], [], 0, 4⟩ else if chkV L ≠ 0 then ⟨[], [], 0, chkV L⟩ else ⟨(galS L wd).ams, floatsS (galS L wd), highS (galS L wd), 0⟩
/-- a galley that can be read. -/
def GalSeen (w : World) (g : Gal) (e : Ending) (w' : World) : Prop := ∃ A n c A2 m c2, e = .returned (.tuple #[.agg #[.slice A n c, .slice A2 m c2, .int .i64 g.high], .int .i64 g.err]) ∧ Rows 8 encAm w' A n g.ams ∧ Rows 7 encFl w' A2 m g.fls ∧ Below w.heap.size w w' ∧ (∀ q, A = some q → w.heap.size ≤ q.block) ∧ ∀ q, A2 = some q → w.heap.size ≤ q.block
theorem chk_doc {L : List Nd} (h : chkV L = 0) : IsDoc L ∧ sumI highN L ≤ maxN := by
  unfold chkV at h
  by_cases hd : docB L = true
  · rw [if_pos hd] at h
    have hdoc := (docB_iff L).1 hd
    refine ⟨hdoc, ?_⟩
    by_cases ho : overB (sumB L) = true
    · rw [if_pos ho] at h; exact absurd h (by decide)
    · unfold overB at ho
      rw [sumB_eq] at ho
      simp only [Bool.or_eq_true, decide_eq_true_eq, not_or] at ho
      have := ho.2
      have hc : cut (sumI highN L) = min (sumI highN L) 1099511627777 := rfl
      unfold maxN
      omega
  · rw [if_neg hd] at h; exact absurd h (by decide)
def zero3 : List Value := [.slice none 0 0, .slice none 0 0, .int .i64 0]
theorem zero3_of {w : World} {k : Nat} (hX : Box w k zero3) : (w.cell? ⟨k, 0, none⟩ = some (.slice none 0 0) ∧ w.cell? ⟨k, 1, none⟩ = some (.slice none 0 0) ∧ w.cell? ⟨k, 2, none⟩ = some (.int .i64 0)) ∧ (w.frozen? ⟨k, 0, none⟩ = false ∧ w.frozen? ⟨k, 1, none⟩ = false ∧ w.frozen? ⟨k, 2, none⟩ = false) ∧ k < w.heap.size :=
  ⟨⟨hX.2.2 0 _ rfl, hX.2.2 1 _ rfl, hX.2.2 2 _ rfl⟩, ⟨hX.2.1 _, hX.2.1 _, hX.2.1 _⟩, hX.1⟩
end Go.Proofs.YtdjnaejblgheoaaGreat
