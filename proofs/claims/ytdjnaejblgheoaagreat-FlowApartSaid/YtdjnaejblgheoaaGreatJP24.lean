import Derived.Test.YtdjnaejblgheoaaGreatJP17
/- The document's answers for package valid: one node. (Written by program: tools/drafts/genone.py.) -/
namespace Go.Proofs.YtdjnaejblgheoaaGreat
open Go.RowKit
set_option linter.unusedVariables false
set_option linter.unusedSimpArgs false
def oneM (m : NdM) (ws : List Int) : Bool := oneB ⟨m.kind, m.size, m.sty, m.line, m.space, ws, m.side, m.w, m.h⟩
theorem Shows.one {w : World} {m : NdM} {x : Nd} (h : Shows w m x) : oneB x = oneM m x.words := by
  obtain ⟨⟨h1, h2, h3, h4, h5, h6, h7, h8⟩, _⟩ := h
  unfold oneM
  rw [← h1, ← h2, ← h3, ← h4, ← h5, ← h6, ← h7, ← h8]
end Go.Proofs.YtdjnaejblgheoaaGreat
