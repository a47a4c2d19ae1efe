import Derived.Test.YtnipifccalalhaaDoorLexOf
/- The program's package lex: Of and Text, each by its contract (lexof_any, lextext_any). -/
namespace Go.Proofs.YtnipifccalalhaaDoor
end Go.Proofs.YtnipifccalalhaaDoor
