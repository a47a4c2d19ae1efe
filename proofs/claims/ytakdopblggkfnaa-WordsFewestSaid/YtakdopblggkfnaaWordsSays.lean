import Derived.Test.YtakdopblggkfnaaWordsWide
import Derived.Test.YtakdopblggkfnaaWordsAll
import Derived.Test.YtakdopblggkfnaaWordsLaws
/- Package words says what it is asked to say. -/
namespace Go.Proofs.Ytakdopblggkfnaa
open Go.RowKit
set_option linter.unusedVariables false
theorem wordsSays : WordsSays where
  wide := fun hv hn ha hb hm h => pwide_to hv hn ha hb hm h
  take := fun hv hn h0 h1 ha hm h => ptake_to hv hn ha (by unfold farN at h1; exact ⟨by omega, by omega⟩) hm h
  all := fun hv hn h0 h1 hm h => (pall_to hv hn (by unfold farN at h1; exact ⟨by omega, by omega⟩) hm h).mono fun e w' k => k.seen
  any := fun hn h0 h1 hm h => (pall_to rfl hn (by unfold farN at h1; exact ⟨by omega, by omega⟩) hm h).mono fun e w' k => by
    obtain ⟨A, n, c, h1, h2, h3, h4⟩ := k.seen
    exact ⟨A, n, c, h1, by have := h3.2.1; omega, h4⟩
end Go.Proofs.Ytakdopblggkfnaa
