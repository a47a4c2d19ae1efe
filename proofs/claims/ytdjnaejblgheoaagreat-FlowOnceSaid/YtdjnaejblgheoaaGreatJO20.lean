import Derived.Test.YtdjnaejblgheoaaGreatJO19
/- The document's answer for package flow: one node. (Written by program: tools/drafts/genflow14.py.) -/
namespace Go.Proofs.YtdjnaejblgheoaaGreat
open Go.RowKit
set_option linter.unusedVariables false
set_option linter.unusedSimpArgs false
theorem rows_far {α : Type} {k : Nat} {enc : α → List Value} {w w' : World} {A : Option Addr} {n : Nat} {l : List α} {row : Option Nat} (h : Rows k enc w A n l) (hg : w.grownBy w' row) (hr : ∀ q, A = some q → row ≠ some q.block) : Rows k enc w' A n l :=
  ⟨h.1, h.2.1, fun hn => by
    obtain ⟨b, off, e, hl, hc⟩ := h.2.2 hn
    exact ⟨b, off, e, Nat.lt_of_lt_of_le hl hg.size, fun i x hx j v hv => hg.cell (hc i x hx j v hv) (fun e2 => hr _ e e2.symm)⟩⟩
theorem penLns_snoc (h : Int) (p : Int × Int) (l : List Ln) (z : Ln) : penLns h p (l ++ [z]) = (z.y + h, 0) := by unfold penLns; rw [List.foldl_append]; rfl
theorem lns_bd {l : List Fl} {ws : List Int} {sp h a b : Int} (h0 : 0 ≤ h) : ∀ (f i : Nat) (y M : Int), (∀ g ∈ l, g.y + g.h ≤ M) → y ≤ M → ∀ z ∈ lnsF l ws sp h a b f i y, y ≤ z.y ∧ z.y + h ≤ M + ((lnsF l ws sp h a b f i y).length : Int) * h
  | 0, i, y, M, hM, hy, z, hz => by cases hz
  | f + 1, i, y, M, hM, hy, z, hz => by
    unfold lnsF at hz ⊢
    by_cases hi : i < ws.length
    · rw [if_pos hi] at hz ⊢
      have hy2 : (lineL l ws sp h a b i y).y = seekE l h (wordI ws i) a b y := rfl
      have hge : y ≤ (lineL l ws sp h a b i y).y := by rw [hy2]; exact seekE_ge _
      have hle : (lineL l ws sp h a b i y).y ≤ M := by rw [hy2]; exact seekE_le hM hy
      have hp : 0 ≤ ((lnsF l ws sp h a b f (lineL l ws sp h a b i y).to_.toNat ((lineL l ws sp h a b i y).y + h)).length : Int) * h := Int.mul_nonneg (by omega) h0
      have e : (((lineL l ws sp h a b i y :: lnsF l ws sp h a b f (lineL l ws sp h a b i y).to_.toNat ((lineL l ws sp h a b i y).y + h)).length : Nat) : Int) * h = ((lnsF l ws sp h a b f (lineL l ws sp h a b i y).to_.toNat ((lineL l ws sp h a b i y).y + h)).length : Int) * h + h := by
        rw [List.length_cons, Int.natCast_add, Int.add_mul]; simp only [Int.natCast_one, Int.one_mul]
      rw [e]
      rcases List.mem_cons.1 hz with rfl | hz
      · omega
      · have ih := lns_bd (l := l) (ws := ws) (sp := sp) (a := a) (b := b) h0 f (lineL l ws sp h a b i y).to_.toNat ((lineL l ws sp h a b i y).y + h) (M + h) (fun g hg => by have := hM g hg; omega) (by omega) z hz
        omega
    · rw [if_neg hi] at hz; cases hz
end Go.Proofs.YtdjnaejblgheoaaGreat
