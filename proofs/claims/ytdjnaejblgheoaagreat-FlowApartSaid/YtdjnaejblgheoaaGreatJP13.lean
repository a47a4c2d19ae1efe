import Derived.Test.YtdjnaejblgheoaaGreatJP10
import Derived.Test.YtdjnaejblgheoaaGreatJP03
import Derived.Deep.RegionHeld3
/- The document's answer for package lines: a line. -/
namespace Go.Proofs.YtdjnaejblgheoaaGreat
open Go.RowKit
set_option linter.unusedVariables false
set_option linter.unusedSimpArgs false
theorem Box.new5l (w : World) (a b c d e : Value) (t : TypeId) (n : Nat) (h : n = w.heap.size) : Box (w.alloc (.cells #[a, b, c, d, e] t)) n [a, b, c, d, e] := by subst h; exact Box.new w [a, b, c, d, e] t
theorem Box.of5l {w : World} {n : Nat} {a b c d e : Value} (h : Box w n [a, b, c, d, e]) : (w.cell? ⟨n, 0, none⟩ = some a ∧ w.cell? ⟨n, 1, none⟩ = some b ∧ w.cell? ⟨n, 2, none⟩ = some c ∧ w.cell? ⟨n, 3, none⟩ = some d ∧ w.cell? ⟨n, 4, none⟩ = some e) ∧ (∀ o, w.frozen? ⟨n, o, none⟩ = false) ∧ n < w.heap.size :=
  ⟨⟨h.2.2 0 _ rfl, h.2.2 1 _ rfl, h.2.2 2 _ rfl, h.2.2 3 _ rfl, h.2.2 4 _ rfl⟩, h.2.1, h.1⟩
theorem on_then {w W W' : World} (h : Below w.heap.size w W) (ho : On W W') : On w W' := below_then h ho
theorem ints_on12 {w : World} {A : Option Addr} {n : Nat} {zs : List Int} (h : Ints w A n zs) {i : Nat} (hi : i < n) : ∃ b o, A = some ⟨b, o, none⟩ ∧ ∀ w', On w w' → w'.cell? ⟨b, o + i, none⟩ = some (.int .i64 (wordI zs i)) := by
  obtain ⟨b, o, e, hc⟩ := h.at_ hi
  exact ⟨b, o, e, On.cell hc⟩
end Go.Proofs.YtdjnaejblgheoaaGreat
