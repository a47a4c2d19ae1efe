import Derived.Test.YtikpbgkjghcidaaRow
/- A walk is stopped ahead of an operation, told by what it is. Nothing of the program stands here. -/
namespace Go.Proofs.Ytikpbgkjghcidaa
open Go.RowKit
set_option linter.unusedVariables false
def Stop (p : Prop) : Prop := p
theorem Stop.intro {p : Prop} (h : p) : Stop p := h
section
variable {P : Program} {ops : Array Oper} {rest : List Oper} {o : Oper} {a : Act} {w : World} {Q : Exit → Act → World → Prop}
/-- ahead of this load. -/
theorem stop_load (t : TypeId) (x : Operand) (ho : o.op = .load t x) (h : Stop (wpList P ops Q (o :: rest) a w)) : wpList P ops Q (o :: rest) a w := h
/-- ahead of this store. -/
theorem stop_store (t : TypeId) (x y : Operand) (ho : o.op = .store t x y) (h : Stop (wpList P ops Q (o :: rest) a w)) : wpList P ops Q (o :: rest) a w := h
/-- ahead of the operation whose result goes there. -/
theorem stop_dst (d : Nat) (ho : o.dst = some d) (h : Stop (wpList P ops Q (o :: rest) a w)) : wpList P ops Q (o :: rest) a w := h
end
end Go.Proofs.Ytikpbgkjghcidaa
